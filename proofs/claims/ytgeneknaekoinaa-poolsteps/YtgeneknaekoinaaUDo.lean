/- What a step does with a pool. -/
import Derived.Test.YtgeneknaekoinaaUSay
namespace Go.Proofs.Ytgeneknaekoinaa
open Go.ChangeShapes Go.WideShapes Go.ChangeAt Go.RowKit
set_option linter.unusedVariables false

def as0 (p : Pm) (now who : Int) : List Ac := if askE p now who = 0 then [askA p now who] else []
/-- The acts of a step, whether it let a connection go, and what the pool is then. -/
def dsA (p : Pm) (kd now who : Int) : List Ac := if kd = 0 then as0 p now who else if kd = 1 then [] else if kd = 2 then gnA p now who else if kd = 3 then dnA p now who true else if kd = 4 then dnA p now who false else if kd = 5 then drA p now who else exA p now
def dsB (p : Pm) (kd now who : Int) : Bool := if kd = 2 then gnE p now who == 0 else if kd = 3 ∨ kd = 4 then dnE p now who == 0 else false
def dsP (p : Pm) (kd now who : Int) : Pm := if kd = 0 then askP p now who else if kd = 1 then upP p who else if kd = 2 then gnP p now who else if kd = 3 then dnP p now who true else if kd = 4 then dnP p now who false else if kd = 5 then drP p now who else exP p now
def stV (kd nw who : Int) : Value := .agg #[.int .i64 kd, .int .i64 nw, .int .i64 who]
def stO (kd nw who : Int) : Obj := .cells #[.int .i64 kd, .int .i64 nw, .int .i64 who] 34 (0, 0)
theorem st_cells {w : World} {b : Nat} {kd nw who : Int} (h : w.heap[b]? = some (stO kd nw who)) : w.cell? ⟨b, 0, none⟩ = some (.int .i64 kd) ∧ w.cell? ⟨b, 1, none⟩ = some (.int .i64 nw) ∧ w.cell? ⟨b, 2, none⟩ = some (.int .i64 who) :=
  ⟨cell_of h 0, cell_of h 1, cell_of h 2⟩
theorem ret2vb {a b : Bool} {v u : Value} (h : v = u) (k : a = b) : Ending.returned (.tuple #[v, .bool a]) = .returned (.tuple #[u, .bool b]) := by rw [h, k]
set_option maxHeartbeats 2000000 in
set_option maxRecDepth 100000 in
theorem does0 (p : Pm) (b : Nat) (w : World) (P : Nat → Prop) (nw who now K : Int) (h : PX p b w P) (k0 : POk p K) (hK : K < 9223372036854775805) :
    Calls Try.prog 15 #[.pointer (some ⟨b, 0, none⟩), stV 0 nw who, .int .i64 now] w fun e w' => ∃ v, e = .returned (.tuple #[v, .bool false]) ∧ Does (Two (RA v (as0 p now who)) (PX (askP p now who) b)) P w w' := by
  have T0 : Hid (Does (Two (Blk w.heap.size (stO 0 nw who)) (PX p b)) P w (w.alloc (stO 0 nw who))) := hide ((Does.refl h).new _)
  have HK := hide k0
  clear h k0
  rw [show stO 0 nw who = .cells #[.int .i64 0, .int .i64 nw, .int .i64 who] 34 (0, 0) from rfl] at T0
  unfold stV
  skip
  go_enter Try.func15, Try.ntmps15
  go_upto_region 1 with fail
  generalize w.alloc _ = w1 at *
  generalize w.heap.size = sb at *
  obtain ⟨_, x⟩ := T0.out.fst_of
  obtain ⟨e0, e1, e2⟩ := st_cells (kd := 0) (nw := nw) (who := who) x.1
  clear x
  have T1 := hide T0.out.snd
  clear T0
  obtain ⟨P2, x, hx⟩ := T1.out.foc
  have HX := hide hx
  have HC := hide (ask_any p b w1 P2 now who K x HK.out (by omega))
  clear x hx T1
  obtain ⟨⟨ak, ac, aw⟩, Hac⟩ : ∃ a, Hid (askA p now who = a) := ⟨_, hide rfl⟩
  obtain ⟨er, Her⟩ : ∃ er, Hid (askE p now who = er) := ⟨_, hide rfl⟩
  rw [Hac.out, Her.out] at HC
  unfold acV at HC
  go_wp2_with fail
  refine HC.out.mono ?_
  rintro e w2 ⟨rfl, d⟩
  have T2 := hide (HX.out _ _ d)
  clear d HX HC
  have T3 := hide (T2.out.new (acO ⟨ak, ac, aw⟩))
  rw [show acO ⟨ak, ac, aw⟩ = .cells #[.int .i64 ak, .int .i64 ac, .int .i64 aw] 49 (0, 0) from rfl] at T3
  go_upto_region 4 with fail
  clear T2 e0 e1 e2
  generalize w2.alloc _ = w3 at *
  generalize w2.heap.size = ab at *
  by_cases he : er = 0
  · have he2 : (er == 0) = true := by simpa using he
    obtain ⟨_, y⟩ := T3.out.fst_of
    obtain ⟨a0, a1, a2, -⟩ := ac_cells (a := ⟨ak, ac, aw⟩) y.1
    dsimp only at a0 a1 a2
    clear y
    have T4 := hide (T3.out.snd.newRA ⟨ak, ac, aw⟩)
    dsimp only at T4
    have HE : Hid (as0 p now who = [⟨ak, ac, aw⟩]) := hide (by unfold as0; rw [Her.out, if_pos he, Hac.out])
    clear T3 he
    go_wp2_with fail
    go_ret2
    refine ⟨_, rfl, ?_⟩
    rw [HE.out]
    exact T4.out
  · have he2 : (er == 0) = false := by simpa using he
    have T4 := hide T3.out.snd.nilRA
    have HE : Hid (as0 p now who = []) := hide (by unfold as0; rw [Her.out, if_neg he])
    clear T3
    go_wp2_with fail
    go_ret2
    refine ⟨_, rfl, ?_⟩
    rw [HE.out]
    exact T4.out
set_option maxHeartbeats 2000000 in
set_option maxRecDepth 100000 in
theorem does1 (p : Pm) (b : Nat) (w : World) (P : Nat → Prop) (nw who now K : Int) (h : PX p b w P) (k0 : POk p K) (hK : K < 9223372036854775805) :
    Calls Try.prog 15 #[.pointer (some ⟨b, 0, none⟩), stV 1 nw who, .int .i64 now] w fun e w' => ∃ v, e = .returned (.tuple #[v, .bool false]) ∧ Does (Two (RA v []) (PX (upP p who) b)) P w w' := by
  have T0 : Hid (Does (Two (Blk w.heap.size (stO 1 nw who)) (PX p b)) P w (w.alloc (stO 1 nw who))) := hide ((Does.refl h).new _)
  have HK := hide k0
  clear h k0
  rw [show stO 1 nw who = .cells #[.int .i64 1, .int .i64 nw, .int .i64 who] 34 (0, 0) from rfl] at T0
  unfold stV
  skip
  go_enter Try.func15, Try.ntmps15
  go_upto_region 1 with fail
  generalize w.alloc _ = w1 at *
  generalize w.heap.size = sb at *
  obtain ⟨_, x⟩ := T0.out.fst_of
  obtain ⟨e0, e1, e2⟩ := st_cells (kd := 1) (nw := nw) (who := who) x.1
  clear x
  have T1 := hide T0.out.snd
  clear T0
  obtain ⟨P2, x, hx⟩ := T1.out.foc
  have HX := hide hx
  have HC := hide (up_any p b w1 P2 who K x HK.out)
  clear x hx T1
  go_wp2_with fail
  refine HC.out.mono ?_
  rintro e w2 ⟨rfl, d⟩
  have T2 := hide (HX.out _ _ d).nilRA
  clear d HX HC
  go_wp2_with fail
  go_ret2
  exact ⟨_, rfl, T2.out⟩
set_option maxHeartbeats 2000000 in
set_option maxRecDepth 100000 in
theorem does2 (p : Pm) (b : Nat) (w : World) (P : Nat → Prop) (nw who now K : Int) (h : PX p b w P) (k0 : POk p K) (hK : K < 9223372036854775805) :
    Calls Try.prog 15 #[.pointer (some ⟨b, 0, none⟩), stV 2 nw who, .int .i64 now] w fun e w' => ∃ v, e = .returned (.tuple #[v, .bool (gnE p now who == 0)]) ∧ Does (Two (RA v (gnA p now who)) (PX (gnP p now who) b)) P w w' := by
  have T0 : Hid (Does (Two (Blk w.heap.size (stO 2 nw who)) (PX p b)) P w (w.alloc (stO 2 nw who))) := hide ((Does.refl h).new _)
  have HK := hide k0
  clear h k0
  rw [show stO 2 nw who = .cells #[.int .i64 2, .int .i64 nw, .int .i64 who] 34 (0, 0) from rfl] at T0
  unfold stV
  skip
  go_enter Try.func15, Try.ntmps15
  go_upto_region 1 with fail
  generalize w.alloc _ = w1 at *
  generalize w.heap.size = sb at *
  obtain ⟨_, x⟩ := T0.out.fst_of
  obtain ⟨e0, e1, e2⟩ := st_cells (kd := 2) (nw := nw) (who := who) x.1
  clear x
  have T1 := hide T0.out.snd
  clear T0
  obtain ⟨P2, x, hx⟩ := T1.out.foc
  have HX := hide hx
  have HC := hide (gone_any p b w1 P2 now who K x HK.out (by omega))
  clear x hx T1
  go_wp2_with fail
  refine HC.out.mono ?_
  rintro e w2 ⟨v, rfl, d⟩
  have T2 := hide (HX.out _ _ d)
  clear d HX HC
  obtain ⟨sa, sl, sc, rfl⟩ : ∃ a n cap, v = .slice a n cap := by obtain ⟨_, y⟩ := T2.out.fst_of; obtain ⟨a, c, e, _⟩ := y.1.shape; exact ⟨a, _, c, e⟩
  go_wp2_with fail
  go_ret2
  exact ⟨_, rfl, T2.out⟩
set_option maxHeartbeats 2000000 in
set_option maxRecDepth 100000 in
theorem does3 (p : Pm) (b : Nat) (w : World) (P : Nat → Prop) (nw who now K : Int) (h : PX p b w P) (k0 : POk p K) (hK : K < 9223372036854775805) :
    Calls Try.prog 15 #[.pointer (some ⟨b, 0, none⟩), stV 3 nw who, .int .i64 now] w fun e w' => ∃ v, e = .returned (.tuple #[v, .bool (dnE p now who == 0)]) ∧ Does (Two (RA v (dnA p now who true)) (PX (dnP p now who true) b)) P w w' := by
  have T0 : Hid (Does (Two (Blk w.heap.size (stO 3 nw who)) (PX p b)) P w (w.alloc (stO 3 nw who))) := hide ((Does.refl h).new _)
  have HK := hide k0
  clear h k0
  rw [show stO 3 nw who = .cells #[.int .i64 3, .int .i64 nw, .int .i64 who] 34 (0, 0) from rfl] at T0
  unfold stV
  skip
  go_enter Try.func15, Try.ntmps15
  go_upto_region 1 with fail
  generalize w.alloc _ = w1 at *
  generalize w.heap.size = sb at *
  obtain ⟨_, x⟩ := T0.out.fst_of
  obtain ⟨e0, e1, e2⟩ := st_cells (kd := 3) (nw := nw) (who := who) x.1
  clear x
  have T1 := hide T0.out.snd
  clear T0
  obtain ⟨P2, x, hx⟩ := T1.out.foc
  have HX := hide hx
  have HC := hide (done_any p b w1 P2 now who K true x HK.out (by omega))
  clear x hx T1
  go_wp2_with fail
  refine HC.out.mono ?_
  rintro e w2 ⟨v, rfl, d⟩
  have T2 := hide (HX.out _ _ d)
  clear d HX HC
  obtain ⟨sa, sl, sc, rfl⟩ : ∃ a n cap, v = .slice a n cap := by obtain ⟨_, y⟩ := T2.out.fst_of; obtain ⟨a, c, e, _⟩ := y.1.shape; exact ⟨a, _, c, e⟩
  go_wp2_with fail
  go_ret2
  exact ⟨_, rfl, T2.out⟩
set_option maxHeartbeats 2000000 in
set_option maxRecDepth 100000 in
theorem does4 (p : Pm) (b : Nat) (w : World) (P : Nat → Prop) (nw who now K : Int) (h : PX p b w P) (k0 : POk p K) (hK : K < 9223372036854775805) :
    Calls Try.prog 15 #[.pointer (some ⟨b, 0, none⟩), stV 4 nw who, .int .i64 now] w fun e w' => ∃ v, e = .returned (.tuple #[v, .bool (dnE p now who == 0)]) ∧ Does (Two (RA v (dnA p now who false)) (PX (dnP p now who false) b)) P w w' := by
  have T0 : Hid (Does (Two (Blk w.heap.size (stO 4 nw who)) (PX p b)) P w (w.alloc (stO 4 nw who))) := hide ((Does.refl h).new _)
  have HK := hide k0
  clear h k0
  rw [show stO 4 nw who = .cells #[.int .i64 4, .int .i64 nw, .int .i64 who] 34 (0, 0) from rfl] at T0
  unfold stV
  skip
  go_enter Try.func15, Try.ntmps15
  go_upto_region 1 with fail
  generalize w.alloc _ = w1 at *
  generalize w.heap.size = sb at *
  obtain ⟨_, x⟩ := T0.out.fst_of
  obtain ⟨e0, e1, e2⟩ := st_cells (kd := 4) (nw := nw) (who := who) x.1
  clear x
  have T1 := hide T0.out.snd
  clear T0
  obtain ⟨P2, x, hx⟩ := T1.out.foc
  have HX := hide hx
  have HC := hide (done_any p b w1 P2 now who K false x HK.out (by omega))
  clear x hx T1
  go_wp2_with fail
  refine HC.out.mono ?_
  rintro e w2 ⟨v, rfl, d⟩
  have T2 := hide (HX.out _ _ d)
  clear d HX HC
  obtain ⟨sa, sl, sc, rfl⟩ : ∃ a n cap, v = .slice a n cap := by obtain ⟨_, y⟩ := T2.out.fst_of; obtain ⟨a, c, e, _⟩ := y.1.shape; exact ⟨a, _, c, e⟩
  go_wp2_with fail
  go_ret2
  exact ⟨_, rfl, T2.out⟩
set_option maxHeartbeats 2000000 in
set_option maxRecDepth 100000 in
theorem does5 (p : Pm) (b : Nat) (w : World) (P : Nat → Prop) (nw who now K : Int) (h : PX p b w P) (k0 : POk p K) (hK : K < 9223372036854775805) :
    Calls Try.prog 15 #[.pointer (some ⟨b, 0, none⟩), stV 5 nw who, .int .i64 now] w fun e w' => ∃ v, e = .returned (.tuple #[v, .bool false]) ∧ Does (Two (RA v (drA p now who)) (PX (drP p now who) b)) P w w' := by
  have T0 : Hid (Does (Two (Blk w.heap.size (stO 5 nw who)) (PX p b)) P w (w.alloc (stO 5 nw who))) := hide ((Does.refl h).new _)
  have HK := hide k0
  clear h k0
  rw [show stO 5 nw who = .cells #[.int .i64 5, .int .i64 nw, .int .i64 who] 34 (0, 0) from rfl] at T0
  unfold stV
  skip
  go_enter Try.func15, Try.ntmps15
  go_upto_region 1 with fail
  generalize w.alloc _ = w1 at *
  generalize w.heap.size = sb at *
  obtain ⟨_, x⟩ := T0.out.fst_of
  obtain ⟨e0, e1, e2⟩ := st_cells (kd := 5) (nw := nw) (who := who) x.1
  clear x
  have T1 := hide T0.out.snd
  clear T0
  obtain ⟨P2, x, hx⟩ := T1.out.foc
  have HX := hide hx
  have HC := hide (drop_any p b w1 P2 now who K x HK.out (by omega))
  clear x hx T1
  go_wp2_with fail
  refine HC.out.mono ?_
  rintro e w2 ⟨v, rfl, d⟩
  have T2 := hide (HX.out _ _ d)
  clear d HX HC
  obtain ⟨sa, sl, sc, rfl⟩ : ∃ a n cap, v = .slice a n cap := by obtain ⟨_, y⟩ := T2.out.fst_of; obtain ⟨a, c, e, _⟩ := y.1.shape; exact ⟨a, _, c, e⟩
  go_wp2_with fail
  go_ret2
  exact ⟨_, rfl, T2.out⟩
set_option maxHeartbeats 2000000 in
set_option maxRecDepth 100000 in
theorem does6 (p : Pm) (b : Nat) (w : World) (P : Nat → Prop) (kd nw who now K : Int) (h : PX p b w P) (k0 : POk p K) (hK : K < 9223372036854775805) (n0 : ¬ kd = 0) (n1 : ¬ kd = 1) (n2 : ¬ kd = 2) (n3 : ¬ kd = 3) (n4 : ¬ kd = 4) (n5 : ¬ kd = 5) :
    Calls Try.prog 15 #[.pointer (some ⟨b, 0, none⟩), stV kd nw who, .int .i64 now] w fun e w' => ∃ v, e = .returned (.tuple #[v, .bool false]) ∧ Does (Two (RA v (exA p now)) (PX (exP p now) b)) P w w' := by
  have T0 : Hid (Does (Two (Blk w.heap.size (stO kd nw who)) (PX p b)) P w (w.alloc (stO kd nw who))) := hide ((Does.refl h).new _)
  have HK := hide k0
  clear h k0
  rw [show stO kd nw who = .cells #[.int .i64 kd, .int .i64 nw, .int .i64 who] 34 (0, 0) from rfl] at T0
  unfold stV
  have m0 : (kd == 0) = false := by simpa using n0
  have m1 : (kd == 1) = false := by simpa using n1
  have m2 : (kd == 2) = false := by simpa using n2
  have m3 : (kd == 3) = false := by simpa using n3
  have m4 : (kd == 4) = false := by simpa using n4
  have m5 : (kd == 5) = false := by simpa using n5
  go_enter Try.func15, Try.ntmps15
  go_upto_region 1 with fail
  generalize w.alloc _ = w1 at *
  generalize w.heap.size = sb at *
  obtain ⟨_, x⟩ := T0.out.fst_of
  obtain ⟨e0, e1, e2⟩ := st_cells (kd := kd) (nw := nw) (who := who) x.1
  clear x
  have T1 := hide T0.out.snd
  clear T0
  obtain ⟨P2, x, hx⟩ := T1.out.foc
  have HX := hide hx
  have HC := hide (expire_any p b w1 P2 now K x HK.out (by omega))
  clear x hx T1
  go_wp2_with fail
  refine HC.out.mono ?_
  rintro e w2 ⟨v, rfl, d⟩
  have T2 := hide (HX.out _ _ d)
  clear d HX HC
  obtain ⟨sa, sl, sc, rfl⟩ : ∃ a n cap, v = .slice a n cap := by obtain ⟨_, y⟩ := T2.out.fst_of; obtain ⟨a, c, e, _⟩ := y.1.shape; exact ⟨a, _, c, e⟩
  go_wp2_with fail
  go_ret2
  exact ⟨_, rfl, T2.out⟩
theorem does_any (p : Pm) (b : Nat) (w : World) (P : Nat → Prop) (kd nw who now K : Int) (h : PX p b w P) (k0 : POk p K) (hK : K < 9223372036854775805) :
    Calls Try.prog 15 #[.pointer (some ⟨b, 0, none⟩), stV kd nw who, .int .i64 now] w fun e w' => ∃ v, e = .returned (.tuple #[v, .bool (dsB p kd now who)]) ∧ Does (Two (RA v (dsA p kd now who)) (PX (dsP p kd now who) b)) P w w' := by
  by_cases n0 : kd = 0
  · subst n0; exact does0 p b w P nw who now K h k0 hK
  by_cases n1 : kd = 1
  · subst n1; exact does1 p b w P nw who now K h k0 hK
  by_cases n2 : kd = 2
  · subst n2; exact does2 p b w P nw who now K h k0 hK
  by_cases n3 : kd = 3
  · subst n3; exact does3 p b w P nw who now K h k0 hK
  by_cases n4 : kd = 4
  · subst n4; exact does4 p b w P nw who now K h k0 hK
  by_cases n5 : kd = 5
  · subst n5; exact does5 p b w P nw who now K h k0 hK
  have e1 : dsA p kd now who = exA p now := by unfold dsA; rw [if_neg n0, if_neg n1, if_neg n2, if_neg n3, if_neg n4, if_neg n5]
  have e2 : dsB p kd now who = false := by unfold dsB; rw [if_neg n2, if_neg (by omega)]
  have e3 : dsP p kd now who = exP p now := by unfold dsP; rw [if_neg n0, if_neg n1, if_neg n2, if_neg n3, if_neg n4, if_neg n5]
  rw [e1, e2, e3]
  exact does6 p b w P kd nw who now K h k0 hK n0 n1 n2 n3 n4 n5
theorem POk.up {p : Pm} {K : Int} (h : POk p K) (c : Int) : POk (upP p c) K := by
  unfold upP
  split
  · rename_i hb
    rcases idx_cases (isC c) p.R with ⟨hi, -⟩ | ⟨i, r, hi, hr, -⟩
    · unfold upB at hb; rw [hi] at hb; simp at hb
    · rw [hi, rowC_of hi hr, Int.toNat_natCast]
      obtain ⟨x, y, z⟩ := h.rows r (List.mem_of_getElem? hr)
      exact { h with len := by dsimp only; rw [List.length_set]; exact h.len, rows := rok_set h.rows ⟨x, y, by unfold upR; dsimp only; omega⟩ }
  · exact h
theorem POk.does {p : Pm} {K : Int} (h : POk p K) (kd now who : Int) : POk (dsP p kd now who) (K + 1) := by
  unfold dsP
  split
  · exact h.ask now who
  split
  · exact (h.up who).more (by omega)
  split
  · unfold gnP
    split
    · rename_i he
      unfold gnE at he
      split at he
      · rename_i hm
        split at he
        · omega
        · rename_i hi
          rcases idx_neg (isC who) p.R with x | ⟨i, x, y⟩
          · exact absurd x hi
          · rw [x, Int.toNat_natCast]
            exact (POk.serve _ rfl (h.rm y) hm).more (by omega)
      · omega
    · exact h.more (by omega)
  have dn : ∀ keep, POk (dnP p now who keep) (K + 1) := fun keep => by
    unfold dnP
    split
    · rename_i he
      unfold dnE at he
      split at he
      · rename_i hm
        split at he
        · rename_i hi
          rcases idx_cases (isC who) p.R with ⟨x, -⟩ | ⟨i, r, x, hr, -⟩
          · exact absurd x hi.1
          · unfold dn1
            rw [x, rowC_of x hr, Int.toNat_natCast]
            split
            · exact POk.serve _ rfl (h.rs hr hm) hm
            · exact (POk.serve _ rfl (h.rm (List.getElem?_eq_some_iff.1 hr).1) hm).more (by omega)
        · omega
      · omega
    · exact h.more (by omega)
  split
  · exact dn true
  split
  · exact dn false
  split
  · unfold drP
    split
    · rename_i he
      unfold drE at he
      split at he
      · rename_i hm
        split at he
        · rename_i hi
          unfold dr1
          split
          · rename_i hq
            rcases idx_neg (isN who) p.Q with x | ⟨i, x, y⟩
            · omega
            · rw [x, Int.toNat_natCast]
              exact (POk.serve _ rfl (h.qm y) hm).more (by omega)
          · rename_i hq
            rcases idx_neg (isW who) p.R with x | ⟨i, x, y⟩
            · exact absurd x (hi.resolve_left hq)
            · rw [x, Int.toNat_natCast]
              exact (POk.serve _ rfl (h.rm y) hm).more (by omega)
        · omega
      · omega
    · exact h.more (by omega)
  · unfold exP
    split
    · rename_i hm
      exact (POk.serve _ rfl (h.ex now) hm).more (by omega)
    · exact h.more (by omega)
end Go.Proofs.Ytgeneknaekoinaa
