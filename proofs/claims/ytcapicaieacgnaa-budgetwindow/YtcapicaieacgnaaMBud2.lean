/- A budget, the program's: what its calls tell. -/
import Derived.Test.YtcapicaieacgnaaMBud
namespace Go.Proofs.Ytcapicaieacgnaa
open Go.ChangeShapes Go.WideShapes Go.ChangeAt Go.RowKit

theorem BdT.cs {T : TypeId} {pc mn wn la : Int} {rq rt : List Int} {b : Nat} {w : World} {P : Nat → Prop} (h : BdT T pc mn wn la rq rt b w P) :
    ∃ a1 c1 a2 c2, w.cell? ⟨b, 0, none⟩ = some (.int .i64 pc) ∧ w.cell? ⟨b, 1, none⟩ = some (.int .i64 mn) ∧ w.cell? ⟨b, 2, none⟩ = some (.int .i64 wn) ∧ w.cell? ⟨b, 3, none⟩ = some (.int .i64 la) ∧ w.cell? ⟨b, 4, none⟩ = some (.slice a1 rq.length c1) ∧ w.cell? ⟨b, 5, none⟩ = some (.slice a2 rt.length c2) := by
  obtain ⟨v1, v2, h1, h2, h3, h4, h5, h6⟩ := h
  obtain ⟨a1, cap1, rfl, q1, q2⟩ := h2.shape
  obtain ⟨a2, cap2, rfl, q3, q4⟩ := h3.shape
  obtain ⟨c0, c1, c2, c3, c4, c5, -, -, -⟩ := h1.cs
  exact ⟨a1, cap1, a2, cap2, c0, c1, c2, c3, c4, c5⟩
theorem ret3_int {a b c d e f : Int} (h : a = b) (k : c = d) (l : e = f) : Ending.returned (.tuple #[.int .i64 a, .int .i64 c, .int .i64 e]) = .returned (.tuple #[.int .i64 b, .int .i64 d, .int .i64 f]) := by rw [h, k, l]

/-- How many are told of late. -/
def nN (now : Int) (l : List Int) : Int := if mom now then (l.length : Int) else 0

set_option maxHeartbeats 1000000 in
theorem latet_any (w : World) (P : Nat → Prop) (b : Nat) (pc mn wn la now : Int) (rq rt : List Int) (h : Bd pc mn wn la rq rt b w P) (k : Ok pc mn wn la rq rt) :
    Calls Try.prog 16 #[.pointer (some ⟨b, 0, none⟩), .int .i64 now] w fun e w' => e = .returned (.tuple #[.int .i64 (nN now (lateL (nx la now - wn) rq)), .int .i64 (nN now (lateL (nx la now - wn) rt)), .int .i64 (bE now)]) ∧ Does (Bd pc mn wn (nx la now) (lateL (nx la now - wn) rq) (lateL (nx la now - wn) rt) b) P w w' := by
  obtain ⟨_, _, _, _, c0, c1, c2, c3, c4, c5⟩ := h.cs
  have HM := hide (moment_of w b la now c3 k.l0 k.l1)
  clear c0 c1 c2 c3 c4 c5
  cases hm : mom now with
  | false =>
    have e0 : bE now = 1 := by unfold bE; rw [hm]; rfl
    have e1 : ∀ l, nN now l = 0 := fun l => by unfold nN; rw [hm]; rfl
    have e2 : nx la now = la := nx_no hm
    have e3 := k.keep
    have HD := hide (Does.refl h)
    rw [e0, e2] at HM
    rw [e0, e1, e1, e2, e3.1, e3.2]
    clear e0 e1 e2 e3 h k hm
    go_enter Try.func16, Try.ntmps16
    go_wp2_with (go_at_call 19; refine HM.out.mono ?_; rintro e w' ⟨rfl, rfl⟩)
    go_ret3
    exact ⟨rfl, HD.out⟩
  | true =>
    have e0 : bE now = 0 := by unfold bE; rw [hm]; rfl
    have e1 : ∀ l, nN now l = (l.length : Int) := fun l => by unfold nN; rw [hm]; rfl
    have HB := hide (bring_any w P b pc mn wn la (nx la now) rq rt h k (nx_ge _ _) (nx_le k.l0 k.l1))
    rw [e0] at HM
    rw [e0, e1, e1]
    clear e0 e1 h k hm
    generalize nx la now = t at *
    generalize lateL (t - wn) rq = q1 at *
    generalize lateL (t - wn) rt = q2 at *
    go_enter Try.func16, Try.ntmps16
    go_wp2_with (go_at_call 19; refine HM.out.mono ?_; rintro e w' ⟨rfl, rfl⟩)
    refine HB.out.mono ?_
    rintro e w1 ⟨rfl, hd⟩
    have HD := hide hd
    obtain ⟨P', hq, -, -⟩ := hd
    obtain ⟨_, _, _, _, c0, c1, c2, c3, c4, c5⟩ := hq.cs
    clear hq HB HM
    go_wp2_with fail
    go_quiet (fail)
    go_wp2_with fail
    go_ret3
    exact ⟨rfl, HD.out.e (Fr.drewN _ _ _)⟩

def canB (pc mn now : Int) (n m : Nat) : Bool := mom now && (decide ((m : Int) + 1 ≤ mn) || decide (((m : Int) + 1) * 100 ≤ pc * n))
set_option maxHeartbeats 1000000 in
theorem can_any (w : World) (P : Nat → Prop) (b : Nat) (pc mn wn la now : Int) (rq rt : List Int) (h : Bd pc mn wn la rq rt b w P) (k : Ok pc mn wn la rq rt) :
    Calls Try.prog 10 #[.pointer (some ⟨b, 0, none⟩), .int .i64 now] w fun e w' => e = .returned (.tuple #[.bool (canB pc mn now (lateL (nx la now - wn) rq).length (lateL (nx la now - wn) rt).length), .int .i64 (bE now)]) ∧ Does (Bd pc mn wn (nx la now) (lateL (nx la now - wn) rq) (lateL (nx la now - wn) rt) b) P w w' := by
  have HL := hide (latet_any w P b pc mn wn la now rq rt h k)
  have HK := hide (k.nx now)
  cases hm : mom now with
  | false =>
    have e0 : bE now = 1 := by unfold bE; rw [hm]; rfl
    have e1 : ∀ l, nN now l = 0 := fun l => by unfold nN; rw [hm]; rfl
    have e2 : ∀ n m, canB pc mn now n m = false := fun n m => by unfold canB; rw [hm]; rfl
    rw [e0, e1, e1] at HL
    rw [e0, e2]
    clear e0 e1 e2 h k hm
    go_enter Try.func10, Try.ntmps10
    go_wp2_with fail
    refine HL.out.mono ?_
    rintro e w1 ⟨rfl, hd⟩
    have HD := hide hd
    clear hd
    go_wp2_with fail
    go_ret2
    exact ⟨rfl, HD.out⟩
  | true =>
    have e0 : bE now = 0 := by unfold bE; rw [hm]; rfl
    have e1 : ∀ l, nN now l = (l.length : Int) := fun l => by unfold nN; rw [hm]; rfl
    have e2 : ∀ n m, canB pc mn now n m = (decide ((m : Int) + 1 ≤ mn) || decide (((m : Int) + 1) * 100 ≤ pc * n)) := fun n m => by unfold canB; rw [hm]; rfl
    rw [e0, e1, e1] at HL
    rw [e0, e2]
    clear e0 e1 e2 h k hm
    generalize nx la now = t at *
    generalize lateL (t - wn) rq = q1 at *
    generalize lateL (t - wn) rt = q2 at *
    have n1 := HK.out.n1
    have n2 := HK.out.n2
    have p0 := HK.out.p0
    have p1 := HK.out.p1
    have m0 := HK.out.m0
    have m1 := HK.out.m1
    obtain ⟨n, hn⟩ : ∃ n, q1.length = n := ⟨_, rfl⟩
    obtain ⟨m, hmm⟩ : ∃ m, q2.length = m := ⟨_, rfl⟩
    rw [hn] at HL n1 ⊢
    rw [hmm] at HL n2 ⊢
    have x0 : 0 ≤ pc * (n : Int) := Int.mul_nonneg p0 (by omega)
    have x1 : pc * (n : Int) ≤ 10000000 := by have := Int.mul_le_mul p1 (show (n : Int) ≤ 100000 by omega) (by omega) (by omega : (0:Int) ≤ 100); omega
    go_enter Try.func10, Try.ntmps10
    go_wp2_with fail
    refine HL.out.mono ?_
    rintro e w1 ⟨rfl, hd⟩
    have HD := hide hd
    obtain ⟨P', hq, -, -⟩ := hd
    obtain ⟨_, _, _, _, c0, c1, c2, c3, c4, c5⟩ := hq.cs
    clear hq HL
    go_wp2_with fail
    go_region
    go_wp2_with fail
    go_ret2
    refine ⟨ret2_bi ?_ rfl, HD.out.e (Fr.drew _ _)⟩
    rw [Bool.eq_iff_iff, Bool.or_eq_true, decide_eq_true_eq, decide_eq_true_eq, decide_eq_true_eq]
    omega

def okA (pc mn wn : Int) : Prop := (0 ≤ pc ∧ pc ≤ 100) ∧ (0 ≤ mn ∧ mn ≤ 1000) ∧ (1 ≤ wn ∧ wn ≤ 1000000)
theorem okA.ok {pc mn wn : Int} (h : okA pc mn wn) : Ok pc mn wn 0 [] [] := by
  obtain ⟨⟨a, b⟩, ⟨c, d⟩, e, f⟩ := h
  exact ⟨a, b, c, d, e, f, by omega, by omega, List.Pairwise.nil, List.Pairwise.nil, fun y hy => by simp at hy, fun y hy => by simp at hy, by simp, by simp⟩
theorem new_any (w : World) (pc mn wn : Int) (h : okA pc mn wn) :
    Calls Try.prog 8 #[.int .i64 pc, .int .i64 mn, .int .i64 wn] w fun e w' => e = .returned (.tuple #[.pointer (some ⟨w.heap.size, 0, none⟩), .int .i64 0]) ∧ Does (Bd pc mn wn 0 [] [] w.heap.size) none' w w' := by
  obtain ⟨⟨a, b⟩, ⟨c, d⟩, e, f⟩ := h
  go_enter Try.func8, Try.ntmps8
  go_wp2
  go_ret2
  refine ⟨rfl, fun k => k = w.heap.size, ⟨_, _, hp_new _ _, .inl ⟨rfl, rfl⟩, .inl ⟨rfl, rfl⟩, fun k hk => by simp [Value.ownBlock] at hk, fun k hk => by simp [Value.ownBlock] at hk, fun k => by simp [Value.ownBlock]⟩, Fr.alloc _ _ _, fun k hk => .inr (by omega)⟩
theorem new_bad (w : World) (pc mn wn : Int) (h : ¬ okA pc mn wn) :
    Calls Try.prog 8 #[.int .i64 pc, .int .i64 mn, .int .i64 wn] w fun e w' => e = .returned (.tuple #[.pointer none, .int .i64 1]) ∧ w = w' := by
  by_cases a0 : pc < 0
  · clear h; go_enter Try.func8, Try.ntmps8
    go_wp2
    go_ret2
    exact ⟨rfl, rfl⟩
  by_cases a1 : 100 < pc
  · clear h; go_enter Try.func8, Try.ntmps8
    go_wp2
    go_ret2
    exact ⟨rfl, rfl⟩
  by_cases b0 : mn < 0
  · clear h; go_enter Try.func8, Try.ntmps8
    go_wp2
    go_ret2
    exact ⟨rfl, rfl⟩
  by_cases b1 : 1000 < mn
  · clear h; go_enter Try.func8, Try.ntmps8
    go_wp2
    go_ret2
    exact ⟨rfl, rfl⟩
  by_cases p0 : wn < 1
  · clear h; go_enter Try.func8, Try.ntmps8
    go_wp2
    go_ret2
    exact ⟨rfl, rfl⟩
  have p1 : 1000000 < wn := by
    have : ¬ wn ≤ 1000000 := fun x => h ⟨⟨by omega, by omega⟩, ⟨by omega, by omega⟩, by omega, x⟩
    omega
  clear h
  go_enter Try.func8, Try.ntmps8
  go_wp2
  go_ret2
  exact ⟨rfl, rfl⟩

theorem BdT.sr {T : TypeId} {pc mn wn la : Int} {rq rt : List Int} {b : Nat} {w : World} {P : Nat → Prop} (h : BdT T pc mn wn la rq rt b w P) : ∃ v1, w.cell? ⟨b, 4, none⟩ = some v1 ∧ Sr w v1 rq := by
  obtain ⟨v1, v2, h1, h2, h3, h4, h5, h6⟩ := h
  obtain ⟨c0, c1, c2, c3, c4, c5, -, -, -⟩ := h1.cs
  exact ⟨v1, c4, h2⟩
/-- What is there behind an append to the first row, and to the second one. -/
theorem BdT.put1 {T : TypeId} {pc mn wn la y : Int} {rq rt : List Int} {b : Nat} {w W : World} {P : Nat → Prop} {v1 v2 v' : Value} (hd : Bk T w b pc mn wn la v1 v2) (s2 : Sr w v2 rt) (h4 : ∀ k, v1.ownBlock = some k → k ≠ b ∧ v2.ownBlock ≠ some k) (h5 : ∀ k, v2.ownBlock = some k → k ≠ b) (h6 : ∀ k, P k ↔ (k = b ∨ v1.ownBlock = some k ∨ v2.ownBlock = some k))
    (r1 : Sr W v' (rq ++ [y])) (F : Fr (fun k => v1.ownBlock = some k) w W) (o : ∀ k, v'.ownBlock = some k → v1.ownBlock = some k ∨ w.heap.size ≤ k) :
    Bk T W b pc mn wn la v1 v2 ∧ Does (BdT T pc mn wn la (rq ++ [y]) rt b) P w (W.setCell ⟨b, 4, none⟩ v') := by
  have B1 : Bk T W b pc mn wn la v1 v2 := F.hd (fun x => (h4 b x).1 rfl) hd
  have F2 := Fr.set W b 4 v'
  have lb := hp_lt hd
  have nb : ∀ k, v'.ownBlock = some k → ¬ k = b := fun k hk e => by
    rcases o k hk with x | x
    · exact (h4 k x).1 e
    · omega
  refine ⟨B1, _, ⟨v', v2, hp_set B1 4 v', r1.fr F2 nb, (s2.fr F (fun k hk x => (h4 k x).2 hk)).fr F2 (fun k hk => h5 k hk), fun k hk => ⟨nb k hk, fun x => ?_⟩, h5, fun k => Iff.rfl⟩, ?_, fun k hk => ?_⟩
  · rcases o k hk with z | z
    · exact (h4 k z).2 x
    · have := s2.lt x; omega
  · exact (F.mono (fun k _ hk => (h6 k).2 (.inr (.inl hk)))).trans F2 (fun k _ e => (h6 k).2 (.inl e))
  · rcases hk with x | x | x
    · exact .inl ((h6 k).2 (.inl x))
    · rcases o k x with z | z
      · exact .inl ((h6 k).2 (.inr (.inl z)))
      · exact .inr z
    · exact .inl ((h6 k).2 (.inr (.inr x)))
theorem BdT.put2 {T : TypeId} {pc mn wn la y : Int} {rq rt : List Int} {b : Nat} {w W : World} {P : Nat → Prop} {v1 v2 v' : Value} (hd : Bk T w b pc mn wn la v1 v2) (s1 : Sr w v1 rq) (h4 : ∀ k, v1.ownBlock = some k → k ≠ b ∧ v2.ownBlock ≠ some k) (h5 : ∀ k, v2.ownBlock = some k → k ≠ b) (h6 : ∀ k, P k ↔ (k = b ∨ v1.ownBlock = some k ∨ v2.ownBlock = some k))
    (r1 : Sr W v' (rt ++ [y])) (F : Fr (fun k => v2.ownBlock = some k) w W) (o : ∀ k, v'.ownBlock = some k → v2.ownBlock = some k ∨ w.heap.size ≤ k) :
    Bk T W b pc mn wn la v1 v2 ∧ Does (BdT T pc mn wn la rq (rt ++ [y]) b) P w (W.setCell ⟨b, 5, none⟩ v') := by
  have B1 : Bk T W b pc mn wn la v1 v2 := F.hd (fun x => h5 b x rfl) hd
  have F2 := Fr.set W b 5 v'
  have lb := hp_lt hd
  have nb : ∀ k, v'.ownBlock = some k → ¬ k = b := fun k hk e => by
    rcases o k hk with x | x
    · exact h5 k x e
    · omega
  refine ⟨B1, _, ⟨v1, v', hp_set B1 5 v', (s1.fr F (fun k hk x => (h4 k hk).2 x)).fr F2 (fun k hk => (h4 k hk).1), r1.fr F2 nb, fun k hk => ⟨(h4 k hk).1, fun x => ?_⟩, nb, fun k => Iff.rfl⟩, ?_, fun k hk => ?_⟩
  · rcases o k x with z | z
    · exact (h4 k hk).2 z
    · have := s1.lt hk; omega
  · exact (F.mono (fun k _ hk => (h6 k).2 (.inr (.inr hk)))).trans F2 (fun k _ e => (h6 k).2 (.inl e))
  · rcases hk with x | x | x
    · exact .inl ((h6 k).2 (.inl x))
    · exact .inl ((h6 k).2 (.inr (.inl x)))
    · rcases o k x with z | z
      · exact .inl ((h6 k).2 (.inr (.inr z)))
      · exact .inr z
theorem wpList_append_sr {ops : Array Oper} {rest : List Oper} {o : Oper} {a : Act} {Q : Exit → Act → World → Prop} (hgd : o.guard = none) (s x : Operand)
    (ho : o.op = .call { callee := .builtin .append, args := #[s, x], argTypes := #[46, 46] }) (W : World) (v : Value) (l : List Int) (y : Int) (hs : a.eval s = v) (hx : a.eval x = .slice (some ⟨W.heap.size, 0, none⟩) 1 1)
    (hv : Sr W v l) (hl : l.length < 1000000)
    (h : ∀ v' W', Sr W' v' (l ++ [y]) → Fr (fun k => v.ownBlock = some k) W W' → (∀ k, v'.ownBlock = some k → v.ownBlock = some k ∨ W.heap.size ≤ k) → wpList Try.prog ops Q rest (a.put o.dst v') W') : wpList Try.prog ops Q (o :: rest) a (W.alloc (.cells #[.int .i64 y] 3)) := by
  refine wpList_plain hgd fun K hK => ?_
  obtain ⟨v', W', hr, h2, h3, h4⟩ := append_sr W o.type v l y hv hl
  unfold Oper.wp execOp
  simp only [ho, resolve, invoke, builtin, Sem.run_bind, Sem.run_pure, Result.andThen_ok, List.map_toArray, List.map_cons, List.map_nil, hs, hx, hr]
  exact hK _ _ (h v' W' h2 h3 h4)

/-- The requests behind an admission. -/
def adm (now la' : Int) (l : List Int) : List Int := if mom now then l ++ [la'] else l
theorem Ok.adm {pc mn wn la : Int} {rq rt : List Int} (h : Ok pc mn wn la rq rt) (now : Int) (hl : rq.length < 100000) : Ok pc mn wn la (adm now la rq) rt := by
  unfold Go.Proofs.Ytcapicaieacgnaa.adm
  split
  · refine ⟨h.p0, h.p1, h.m0, h.m1, h.w0, h.w1, h.l0, h.l1, ?_, h.s2, ?_, h.b2, by simp; omega, h.n2⟩
    · rw [List.pairwise_append]
      exact ⟨h.s1, by simp, fun a ha b hb => by simp at hb; subst hb; exact (h.b1 a ha).2⟩
    · intro y hy
      rcases List.mem_append.1 hy with x | x
      · exact h.b1 y x
      · simp at x; subst x; have := h.w0; omega
  · exact h

set_option maxRecDepth 100000 in
set_option maxHeartbeats 2000000 in
theorem admit_any (w : World) (P : Nat → Prop) (b : Nat) (pc mn wn la now : Int) (rq rt : List Int) (h : Bd pc mn wn la rq rt b w P) (k : Ok pc mn wn la rq rt) (hl : rq.length < 100000) :
    Calls Try.prog 12 #[.pointer (some ⟨b, 0, none⟩), .int .i64 now] w fun e w' => e = .returned (.int .i64 (bE now)) ∧ Does (Bd pc mn wn (nx la now) (adm now (nx la now) (lateL (nx la now - wn) rq)) (lateL (nx la now - wn) rt) b) P w w' := by
  obtain ⟨_, _, _, _, c0, c1, c2, c3, -, c5⟩ := h.cs
  have HM := hide (moment_of w b la now c3 k.l0 k.l1)
  cases hm : mom now with
  | false =>
    have e0 : bE now = 1 := by unfold bE; rw [hm]; rfl
    have e1 : ∀ x l, adm now x l = l := fun x l => by unfold adm; rw [hm]; rfl
    have e2 : nx la now = la := nx_no hm
    have e3 := k.keep
    have HD := hide (Does.refl h)
    rw [e0, e2] at HM
    rw [e0, e1, e2, e3.1, e3.2]
    clear e0 e1 e2 e3 h k hm c0 c1 c2 c3 c5
    go_enter Try.func12, Try.ntmps12
    go_wp2_with (go_at_call 19; refine HM.out.mono ?_; rintro e w' ⟨rfl, rfl⟩)
    go_ret
    exact ⟨rfl, HD.out⟩
  | true =>
    have e0 : bE now = 0 := by unfold bE; rw [hm]; rfl
    have e1 : ∀ x l, adm now x l = l ++ [x] := fun x l => by unfold adm; rw [hm]; rfl
    obtain ⟨v1, c4, hv1⟩ := h.sr
    have HL := hide (late_any w b wn (nx la now) v1 rq c2 k.w0 k.w1 (by have := nx_ge la now; have := k.l0; omega) (nx_le k.l0 k.l1) hv1 k.s1 (by omega))
    have HB := hide (fun q => bring_any (w.drewN q) P b pc mn wn la (nx la now) rq rt ((BdT.ob _ _ _ _ _ _ _ _).fr _ _ _ _ h (Fr.drewN none' _ _) (fun _ _ x => x)) k (nx_ge _ _) (nx_le k.l0 k.l1))
    have hll := Nat.lt_of_le_of_lt (lateL_le (nx la now - wn) rq) hl
    obtain ⟨a1, cap1, rfl, g1, g2⟩ := hv1.shape
    rw [e0] at HM
    rw [e0, e1]
    clear e0 e1 h k hm hv1
    generalize nx la now = t at *
    generalize lateL (t - wn) rq = q1 at *
    generalize lateL (t - wn) rt = q2 at *
    obtain ⟨m1, Hm1⟩ : ∃ m1, Hid (q1.length = m1) := ⟨_, hide rfl⟩
    rw [Hm1.out] at hll
    have hll2 : ¬ (100000 : Int) ≤ (m1 : Int) := by omega
    have hll3 : decide ((100000 : Int) ≤ (m1 : Int)) = false := decide_eq_false hll2
    have Hll := hide hll
    have HL0 := hide hl
    clear hll hl
    go_enter Try.func12, Try.ntmps12
    go_wp2_with (go_at_call 19; refine HM.out.mono ?_; rintro e w' ⟨rfl, rfl⟩)
    refine HL.out.mono ?_
    rintro e w1 ⟨⟨v', rfl, sv, -⟩, q, rfl⟩
    obtain ⟨a3, cap3, rfl, q5, q6⟩ := sv.shape
    rw [Hm1.out]
    clear sv q5
    go_wp2_with fail
    refine (HB.out q).mono ?_
    rintro e w2 ⟨rfl, hd⟩
    have HD := hide hd
    clear hd HB HL HM c0 c1 c2 c3 c4 c5
    obtain ⟨P2, HP, H1, H2⟩ : ∃ P2, Hid (Bd pc mn wn t q1 q2 b w2 P2) ∧ Hid (Fr P (w.drewN q) w2) ∧ Hid (∀ k, P2 k → P k ∨ (w.drewN q).heap.size ≤ k) := HD.out
    obtain ⟨v1, v2, B1, S1, S2, h4, h5, h6⟩ := HP.out
    obtain ⟨c0, c1, c2, c3, c4, c5, f3, f4, f5⟩ := B1.cs
    have HS1 := hide S1
    have HX := hide (fun (W : World) (v' : Value) (r1 : Sr W v' (q1 ++ [t])) F o => BdT.put1 (W := W) (v' := v') (y := t) B1 S2 h4 h5 h6 r1 F o)
    obtain ⟨a4, cap4, rfl, g3, g4⟩ := S1.shape
    obtain ⟨a5, cap5, rfl, g5, g6⟩ := S2.shape
    clear B1 S1 S2 h4 h5 h6
    rw [Hm1.out] at HS1 HX c4 g3
    go_wp2_with (at_builtin; apply Hid.out)
    unfold Hid
    refine wpList_append_sr rfl _ _ rfl w2 (.slice a4 m1 cap4) q1 t rfl (by simp [Act.eval, go_sem]) HS1.out (by rw [Hm1.out]; have := Hll.out; omega) ?_
    intro v' W r1 F o
    obtain ⟨B2, D2⟩ := HX.out W v' r1 F o
    obtain ⟨a6, cap6, rfl, g7, g8⟩ := r1.shape
    have HD2 := hide D2
    obtain ⟨c0, c1, c2, c3, c4, c5, f3, f4, f5⟩ := B2.cs
    clear r1 F o B2 D2 HX
    go_wp2_with fail
    go_ret
    refine ⟨rfl, ?_⟩
    refine Does.more ((Fr.drewN P w q).trans H1.out (fun _ _ x => x)) H2.out ?_
    have h9 := HD2.out
    rw [List.length_append] at h9
    exact h9

/-- The retries behind one that was let through. -/
def alw (c : Bool) (la' : Int) (l : List Int) : List Int := if c then l ++ [la'] else l
theorem Ok.alw {pc mn wn la now : Int} {rq rt : List Int} (h : Ok pc mn wn la rq rt) : Ok pc mn wn la rq (alw (canB pc mn now rq.length rt.length) la rt) := by
  unfold Go.Proofs.Ytcapicaieacgnaa.alw
  split
  · rename_i hc
    unfold canB at hc
    rw [Bool.and_eq_true, Bool.or_eq_true, decide_eq_true_eq, decide_eq_true_eq] at hc
    have x1 : pc * (rq.length : Int) ≤ 10000000 := by have := h.n1; have := Int.mul_le_mul h.p1 (show (rq.length : Int) ≤ 100000 by omega) (by omega) (by omega : (0:Int) ≤ 100); omega
    have := h.m1
    refine ⟨h.p0, h.p1, h.m0, h.m1, h.w0, h.w1, h.l0, h.l1, h.s1, ?_, h.b1, ?_, h.n1, by simp; omega⟩
    · rw [List.pairwise_append]
      exact ⟨h.s2, by simp, fun a ha b hb => by simp at hb; subst hb; exact (h.b2 a ha).2⟩
    · intro y hy
      rcases List.mem_append.1 hy with x | x
      · exact h.b2 y x
      · simp at x; subst x; have := h.w0; omega
  · exact h

set_option maxRecDepth 100000 in
set_option maxHeartbeats 2000000 in
theorem allow_any (w : World) (P : Nat → Prop) (b : Nat) (pc mn wn la now : Int) (rq rt : List Int) (h : Bd pc mn wn la rq rt b w P) (k : Ok pc mn wn la rq rt) :
    Calls Try.prog 14 #[.pointer (some ⟨b, 0, none⟩), .int .i64 now] w fun e w' => e = .returned (.tuple #[.bool (canB pc mn now (lateL (nx la now - wn) rq).length (lateL (nx la now - wn) rt).length), .int .i64 (bE now)]) ∧ Does (Bd pc mn wn (nx la now) (lateL (nx la now - wn) rq) (alw (canB pc mn now (lateL (nx la now - wn) rq).length (lateL (nx la now - wn) rt).length) (nx la now) (lateL (nx la now - wn) rt)) b) P w w' := by
  have HC := hide (can_any w P b pc mn wn la now rq rt h k)
  have HK := hide (k.nx now)
  have HA := hide (HK.out.alw (now := now)).n2
  clear h k
  generalize nx la now = t at *
  generalize lateL (t - wn) rq = q1 at *
  generalize lateL (t - wn) rt = q2 at *
  cases hc : canB pc mn now q1.length q2.length with
  | false =>
    rw [hc] at HC
    have e1 : alw false t q2 = q2 := rfl
    rw [e1]
    clear hc
    go_enter Try.func14, Try.ntmps14
    go_wp2_with fail
    refine HC.out.mono ?_
    rintro e w1 ⟨rfl, hd⟩
    have HD := hide hd
    clear hd
    go_wp2_with fail
    go_ret2
    exact ⟨rfl, HD.out⟩
  | true =>
    rw [hc] at HC HA
    have e1 : alw true t q2 = q2 ++ [t] := rfl
    rw [e1] at HA ⊢
    clear hc
    go_enter Try.func14, Try.ntmps14
    go_wp2_with fail
    refine HC.out.mono ?_
    rintro e w2 ⟨rfl, hd⟩
    obtain ⟨P2, HP, H1, H2⟩ : ∃ P2, Hid (Bd pc mn wn t q1 q2 b w2 P2) ∧ Hid (Fr P w w2) ∧ Hid (∀ k, P2 k → P k ∨ w.heap.size ≤ k) := hd
    obtain ⟨v1, v2, B1, S1, S2, h4, h5, h6⟩ := HP.out
    obtain ⟨c0, c1, c2, c3, c4, c5, f3, f4, f5⟩ := B1.cs
    obtain ⟨v', W, hrun, r1, F, o⟩ := append_sr w2.drew 46 v2 q2 t S2 (by have := HA.out; simp at this; omega)
    obtain ⟨B2, D2⟩ := BdT.put2 (w := w2.drew) (W := W) (v' := v') (y := t) B1 S1 h4 h5 h6 r1 F o
    obtain ⟨a6, cap6, rfl, g7, g8⟩ := r1.shape
    obtain ⟨a4, cap4, rfl, g3, g4⟩ := S1.shape
    obtain ⟨a5, cap5, rfl, g5, g6⟩ := S2.shape
    have HD2 := hide D2
    obtain ⟨d0, d1, d2, d3, d4, d5, k3, k4, k5⟩ := B2.cs
    have A1 : Bk 50 (w2.alloc (.cells #[.int .i64 t] 3)) b pc mn wn t (.slice a4 q1.length cap4) (.slice a5 q2.length cap5) := (Fr.alloc none' w2 _).hd id B1
    obtain ⟨x0, x1, x2, x3, x4, x5, z3, z4, z5⟩ := A1.cs
    clear r1 F o B2 D2 B1 S1 S2 h4 h5 h6 HC A1 c0 c1 c2 c4 d0 d1 d2 d4 k3 k4 x0 x1 x2 x4 z3 z4 f3 f4
    generalize hn : (q2 ++ [t]).length = n2 at *
    clear hn
    go_wp2_with fail
    go_region_law (refine step_append_is rfl (.tmp 19) (.tmp 24) 46 rfl (.slice a5 q2.length cap5) (.slice (some ⟨w2.heap.size, 0, none⟩) 1 1) (.slice a6 n2 cap6) (by simp [Act.eval]) (by simp [Act.eval]) hrun ?_)
    all_goals (
      go_wp2_with fail
      go_ret2
      exact ⟨rfl, Does.more H1.out.e H2.out HD2.out⟩)
end Go.Proofs.Ytcapicaieacgnaa
