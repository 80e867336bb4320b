/- TimersSteps returns true for all numbers and all steps, and changes nothing that was there. -/
import Derived.Test.YtbmhhkpehilioaaDuoCalls
import Derived.Deep.RegionHeld3
namespace Go.Proofs.Ytbmhhkpehilioaa
open Go.ChangeShapes Go.WideShapes Go.ChangeAt Go.RowKit

theorem append_far (W : World) (base : Nat) (ty : TypeId) (v : Value) (n : Nat) (xs : List Value) (y : Int) (hown : W.ownsRow base 3 1 v n xs) (hn : n < 17592186044416) (hbase : base ≤ W.heap.size) :
    ∃ v' W', (Builtin.append_ #[31, 31] ty #[v, .slice (some ⟨W.heap.size, 0, none⟩) 1 1]).run Try.prog (W.alloc (.cells #[.int .i64 y] 3)) = .ok v' W' ∧ W'.ownsRow base 3 1 v' (n + 1) (xs ++ [.int .i64 y]) ∧ Fr (fun k => some k = v.ownBlock) W W' ∧
      (v'.ownBlock = v.ownBlock ∨ ∃ g, v'.ownBlock = some g ∧ W.heap.size ≤ g) := by
  obtain ⟨i, hi, hz, hs1, hb1⟩ := info3
  obtain ⟨v', W', hr, ho, hg, hnil, hloc⟩ := run_append_own_at (w := W.alloc (.cells #[.int .i64 y] 3)) base 31 ty 3 i (.int .i64 0) 1 8 Try.underlying31 hi hz hs1 hb1 rfl (by omega) v n xs (hown.alloc _) ⟨W.heap.size, 0, none⟩ 1 1 [.int .i64 y] rfl (one_cell W _) (by intro u hu; simp at hu; subst hu; rfl) (by unfold maxLen; omega) (by omega) (by simp; omega)
  refine ⟨v', W', hr, ho, ?_, ?_⟩
  · refine (Fr.alloc (fun k => some k = v.ownBlock) W (.cells #[.int .i64 y] 3)).trans (Fr.ofGrown hg) (fun _ _ x => x)
  · rcases hloc with h | h
    · exact .inl h
    · exact .inr ⟨_, h, by simp⟩
theorem wpList_append_far {ops : Array Oper} {rest : List Oper} {o : Oper} {a : Act} {Q : Exit → Act → World → Prop} (hgd : o.guard = none) (s x : Operand)
    (ho : o.op = .call { callee := .builtin .append, args := #[s, x], argTypes := #[31, 31] }) (W : World) (base : Nat) (v : Value) (n : Nat) (xs : List Value) (y : Int) (hs : a.eval s = v) (hx : a.eval x = .slice (some ⟨W.heap.size, 0, none⟩) 1 1)
    (hown : W.ownsRow base 3 1 v n xs) (hn : n < 17592186044416) (hbase : base ≤ W.heap.size)
    (h : ∀ v' W', W'.ownsRow base 3 1 v' (n + 1) (xs ++ [.int .i64 y]) → Fr (fun k => some k = v.ownBlock) W W' → (v'.ownBlock = v.ownBlock ∨ ∃ g, v'.ownBlock = some g ∧ W.heap.size ≤ g) → wpList Try.prog ops Q rest (a.put o.dst v') W') : wpList Try.prog ops Q (o :: rest) a (W.alloc (.cells #[.int .i64 y] 3)) := by
  refine wpList_plain hgd fun K hK => ?_
  obtain ⟨v', W', hr, h2, h3, h4⟩ := append_far W base o.type v n xs y hown hn hbase
  unfold Oper.wp execOp
  simp only [ho, resolve, invoke, builtin, Sem.run_bind, Sem.run_pure, Result.andThen_ok, List.map_toArray, List.map_cons, List.map_nil, hs, hx, hr]
  exact hK _ _ (h v' W' h2 h3 h4)

structure SAt (W : World) (b off i : Nat) (kd tm key : Int) : Prop where
  c0 : W.cell? ⟨b, off + i * 3, none⟩ = some (.int .i64 kd)
  c1 : W.cell? ⟨b, off + i * 3 + 1, none⟩ = some (.int .i64 tm)
  c2 : W.cell? ⟨b, off + i * 3 + 2, none⟩ = some (.int .i64 key)
  top : tm < 9223372036854775808
  lt : b < W.heap.size
theorem SAt.frame {W wr : World} {b off i : Nat} {kd tm key : Int} (h : SAt W b off i kd tm key) (hF : Fr (fun k => W.heap.size ≤ k) W wr) : SAt wr b off i kd tm key := by
  have e := hF.block b h.lt (by have := h.lt; omega)
  exact ⟨(World.cell?_of_block (w := W) (a := ⟨b, _, none⟩) e).trans h.c0, (World.cell?_of_block (w := W) (a := ⟨b, _, none⟩) e).trans h.c1, (World.cell?_of_block (w := W) (a := ⟨b, _, none⟩) e).trans h.c2, h.top, Nat.lt_of_lt_of_le h.lt hF.size⟩

theorem hs_cell {wr : World} {bs : Nat} {ha : Option Addr} {hc : Nat} {hs : List Int} (h : wr.ownsRow bs 3 1 (.slice ha hs.length hc) hs.length (hs.map fun x => Value.int .i64 x)) {k : Nat} (hk : k < hs.length) : ∃ g, ha = some ⟨g, 0, none⟩ ∧ wr.cell? ⟨g, k, none⟩ = some (.int .i64 (hs.getD k 0)) := by
  obtain ⟨a, c, e, hc, hcell⟩ := SlI.row h
  simp only [Value.slice.injEq] at e
  obtain ⟨rfl, -, rfl⟩ := e
  rcases h.2 with ⟨e, _⟩ | ⟨g, cap, cur, e, _⟩
  · simp only [Value.slice.injEq] at e
    omega
  · simp only [Value.slice.injEq] at e
    obtain ⟨b, off, e1, h1⟩ := hcell k hk
    rw [e.1] at e1
    simp only [Option.some.injEq, Addr.mk.injEq, and_true] at e1
    obtain ⟨rfl, rfl⟩ := e1
    exact ⟨g, e.1, by rw [Nat.zero_add] at h1; exact h1⟩

/-- What holds ahead of each round. -/
def StInv (W0 wr : World) (most j : Nat) (hv : Value) : Prop :=
  ∃ turns S D F L G M R P hs, Duo W0 wr W0.heap.size (W0.heap.size + 1) most turns S D F L G M R hv hs none ∧ Rel S D L G P ∧ turns ≤ j ∧ hs.length ≤ j ∧ ∀ x, x ∈ hs → x < 9223372036854775808

theorem new_no (W : World) (m : Int) (h : ¬ (1 ≤ m ∧ m ≤ 4096)) : Calls Try.prog 9 #[.int .i64 m] W fun e w' => e = .returned (.tuple #[.pointer none, .int .i64 1]) ∧ W = w' := by
  by_cases h1 : m < 1
  all_goals
    go_enter Try.func9, Try.ntmps9
    go_wp2
    go_ret2
    exact ⟨rfl, rfl⟩
set_option maxRecDepth 100000 in
theorem steps_bad (m : Int) (h : ¬ (1 ≤ m ∧ m ≤ 4096)) (v : Value) (W : World) : Calls Try.prog 3 #[.int .i64 m, v] W fun e w' => e = .returned (.bool true) ∧ Below W.heap.size W w' := by
  have h1 := hide (new_no W m h)
  have h2 := hide (rnew_no W m h)
  clear h
  go_enter Try.func3, Try.ntmps3
  go_wp2_with fail
  refine h1.out.mono ?_
  rintro e w1 ⟨rfl, rfl⟩
  go_wp2_with fail
  refine h2.out.mono ?_
  rintro e w2 ⟨rfl, rfl⟩
  go_wp2_with fail
  refine (speaks_any _).mono ?_
  rintro e w3 ⟨rfl, C3⟩
  have HC := hide C3
  clear C3
  go_wp2_with fail
  go_ret
  exact ⟨rfl, HC.out.out.below (Nat.le_refl _) (fun k hk e => e.elim)⟩

set_option maxHeartbeats 8000000 in
set_option maxRecDepth 100000 in
theorem steps_good (m : Nat) (hm1 : 1 ≤ m) (hm2 : m ≤ 4096) (a1 : Option Addr) (len1 cap1 : Nat) (W : World) (hlen : len1 < 17592186044416)
    (hst : Hid (∀ i, i < len1 → ∃ b off kd tm key, a1 = some ⟨b, off, none⟩ ∧ SAt W b off i kd tm key)) :
    Calls Try.prog 3 #[.int .i64 (m : Int), .slice a1 len1 cap1] W fun e w' => e = .returned (.bool true) ∧ Below W.heap.size W w' := by
  have N1 := hide (new_any W m hm1 hm2)
  go_enter Try.func3, Try.ntmps3
  go_wp2_with fail
  refine N1.out.mono ?_
  rintro e w1 ⟨rfl, T1, C1, z1⟩
  have N2 := hide (rnew_yes w1 m hm1 hm2)
  rw [z1] at N2
  have HT1 := hide T1
  have HC1 := hide C1
  clear T1 C1 N1
  go_wp2_with fail
  refine N2.out.mono ?_
  rintro e w2 ⟨rfl, O2, C2⟩
  have I0 : Hid (StInv W w2 m 0 (.slice none 0 0)) := hide (by
    have T2 := HT1.out.cl C2
    have hb := O2.lt
    refine ⟨0, [], [], [], [], [], fun k => k = W.heap.size, fun k => k = W.heap.size + 1, [], [], ⟨T2, ⟨_, _, ⟨O2.hd, by omega, ⟨⟨rfl, .inl ⟨rfl, rfl⟩⟩⟩, ⟨rfl, .inl ⟨rfl, rfl⟩⟩, by simp [Value.ownBlock], by simp [Value.ownBlock], fun k hk => by simp [Value.ownBlock] at hk⟩, fun k hk => ?_⟩, fun k h1 h2 => by omega, fun k hk => by omega, fun k hk => by omega, ⟨rfl, .inl ⟨rfl, rfl⟩⟩, fun g hg => by simp [Value.ownBlock] at hg, (HC1.out.trans C2).out.mono (fun _ _ x => x.elim), nofun⟩, ⟨rfl, List.Perm.refl _, .nil, rfl⟩, Int.le_refl _, Nat.le_refl _, nofun⟩
    rcases hk with hk | hk | hk
    · exact hk
    · simp [Value.ownBlock] at hk
    · simp [Value.ownBlock] at hk)
  clear O2 C2 N2 HT1 HC1
  go_wp2_with fail
  go_loopw [9, 46] (fun u v wr => ∃ j : Nat, j ≤ len1 ∧ v = .int .i64 (j : Int) ∧ Hid (StInv W wr m j u)) (fun _ v _ => len1 - (intOf v).toNat)
  case atStart => exact ⟨0, Nat.zero_le _, rfl, I0⟩
  case round =>
    clear I0
    obtain ⟨j, hj, rfl, HI⟩ := hrel
    obtain ⟨turns, S, D, F, L, G, M, R, P, hs, HD, HRl, hT, hH, hX⟩ := HI.out
    by_cases hlt : j < len1
    · obtain ⟨pb, po, kd, tm, key, rfl, P0⟩ := hst.out j hlt
      have P1 := P0.frame HD.old
      have c0 := P1.c0
      have c1 := P1.c1
      have c2 := P1.c2
      have htop := P0.top
      obtain ⟨ha, hc, hu, hhc⟩ := owns_shape HD.hrow
      subst hu
      have HRl := hide HRl
      have HT0 : Hid (turns ≤ (j : Int)) := hide hT
      have HTb : Hid (turns ≤ 1125899906842624) := hide (by omega)
      have HH0 : Hid (hs.length ≤ j) := hide hH
      have hsl : hs.length < 17592186044416 := by omega
      have HX0 := hide hX
      have HD1 := hide (HD.take (.cells #[.int .i64 kd, .int .i64 tm, .int .i64 key] 33))
      have hB : W.heap.size ≤ wr.heap.size := HD.old.size
      clear P0 P1 hst HD HI hT hH hX
      by_cases k0 : kd = 0
      · subst k0
        have HS := hide (d_set HD1.out HRl.out (by have := HT0.out; omega) tm key)
        go_wp2_with fail
        refine HS.out.mono ?_
        rintro e w3 ⟨hh, er, turns', S3, D3, F3, M3, rfl, D3d, ht3, hh3, R3⟩
        have HD3 := hide D3d
        have kz := (D3d.kz _ rfl).1
        have s1 : w3.cell? ⟨wr.heap.size, 1, none⟩ = some (.int .i64 tm) := (cell_of kz 1).trans rfl
        have s2 : w3.cell? ⟨wr.heap.size, 2, none⟩ = some (.int .i64 key) := (cell_of kz 2).trans rfl
        have HS2 := hide (R3 w3 R D3d.rm)
        have HTj : Hid (turns' ≤ ((j + 1 : Nat) : Int)) := hide (by have := HT0.out; omega)
        replace HTb : Hid (turns' ≤ 1125899906842624) := hide (by have := HT0.out; omega)
        have HH3 := hide hh3
        clear D3d R3 kz HS HD1 ht3 hh3
        go_wp2_with fail
        refine HS2.out.mono ?_
        rintro e w4 ⟨rfl, L4, G4, R4, P4, T4, K4, HR9⟩
        replace HR9 := hide HR9
        have HD4 := hide (HD3.out.r T4 K4)
        clear T4 K4 HS2 s1 s2 HD3
        go_wp2_with (at_builtin; apply Hid.out)
        unfold Hid
        refine wpList_append_far rfl _ _ rfl w4 W.heap.size (.slice ha hs.length hc) hs.length _ hh rfl (by simp [Act.eval, go_sem]) HD4.out.hrow hsl (by exact HD4.out.old.size) ?_
        intro v5 w5 o5 f5 l5
        have HD9 := hide (HD4.out.h (hs' := hs ++ [hh]) f5 (by simpa using o5) l5)
        have HHl : Hid ((hs ++ [hh]).length ≤ j + 1) := hide (by have := HH0.out; simp; omega)
        have HHx : Hid (∀ x, x ∈ hs ++ [hh] → x < 9223372036854775808) := hide (fun x hx => by
          rcases List.mem_append.1 hx with h | h
          · exact HX0.out x h
          · rw [List.mem_singleton.1 h]; exact HH3.out)
        obtain ⟨a5, c5, hv5, -⟩ := owns_shape o5
        subst hv5
        clear o5 f5 l5 HD4
        have HN := hide (next2 HD9.out.tm)
        go_wp2_with fail
        refine HN.out.mono ?_
        rintro e n1 ⟨rfl, N1⟩
        have DN1 := hide (HD9.out.cl N1)
        clear N1 HN
        have HN := hide (rnext2 DN1.out.rm DN1.out.tm.inv HTb.out HR9.out)
        go_wp2_with fail
        refine HN.out.mono ?_
        rintro e n2 ⟨rfl, N2⟩
        have DN2 := hide (DN1.out.cl N2)
        clear N2 HN DN1
        obtain ⟨vl, vg, hro, -⟩ := DN2.out.rm.obj
        have rc1 := hro.c1
        obtain ⟨la, lc, hvl, -⟩ := hro.l.shape
        rw [HR9.out.len] at hvl
        subst hvl
        have HLn := hide (fun q => len2 DN2.out.tm q)
        obtain ⟨dl, Hdl⟩ : ∃ dl, Hid (D3.length = dl) := ⟨_, hide rfl⟩
        obtain ⟨nx, Hnx⟩ : ∃ nx, Hid (nxt S3 D3 = nx) := ⟨_, hide rfl⟩
        rw [Hdl.out] at HLn rc1
        rw [Hdl.out, Hnx.out]
        clear hro
        go_wp2_with fail
        go_quiet ((go_at_call 23; exact Calls.quiet_of_same (HLn.out _)))
        go_wp2_with fail
        go_roundw
        case rel => exact ⟨j + 1, by omega, by go_num, hide ⟨_, _, _, _, _, _, _, _, _, (hs ++ [hh]), (DN2.out.cl (Fr.drewN (fun _ => False) _ _)).drop, HR9.out, HTj.out, HHl.out, HHx.out⟩⟩
        case measure => simp [intOf]; omega
      · by_cases k1 : kd = 1
        · subst k1
          clear k0
          by_cases hk : 0 ≤ tm ∧ tm < hs.length
          · obtain ⟨k, rfl⟩ : ∃ k : Nat, tm = k := ⟨tm.toNat, by omega⟩
            have hk2 : k < hs.length := by omega
            have hk3 : (k : Int) < hs.length := by omega
            obtain ⟨g, rfl, hcell⟩ := hs_cell HD1.out.hrow hk2
            obtain ⟨y, Hy⟩ : ∃ y, Hid (hs.getD k 0 = y) := ⟨_, hide rfl⟩
            have HN0 : Hid (y < 9223372036854775808) := hide (by rw [← Hy.out]; exact HX0.out _ (by simp [List.getD, hk2]))
            rw [Hy.out] at hcell
            clear hk htop
            have HTj : Hid (turns ≤ ((j + 1 : Nat) : Int)) := hide (by have := HT0.out; omega)
            have HHl : Hid (hs.length ≤ j + 1) := hide (by have := HH0.out; omega)
            have HHx := HX0
            have HB := hide (d_has HD1.out HRl.out y HN0.out)
            go_wp2_with fail
            refine HB.out.mono ?_
            rintro e w3 ⟨r, rfl, rfl, R3⟩
            have HB2 := hide (R3 _ R HD1.out.rm)
            clear R3 HB
            go_wp2_with fail
            refine HB2.out.mono ?_
            rintro e w4 ⟨rfl, C4⟩
            have HD4 := hide (HD1.out.cl C4)
            clear C4 HB2
            have HS := hide (d_cancel HD4.out HRl.out HTb.out y HN0.out)
            go_wp2_with fail
            refine HS.out.mono ?_
            rintro e w5 ⟨r5, D3, F3, M3, rfl, D5, R5⟩
            have HD5 := hide D5
            have HS2 := hide (R5 w5 R D5.rm)
            clear D5 R5 HS HD4
            go_wp2_with fail
            refine HS2.out.mono ?_
            rintro e w6 ⟨rfl, L6, R6, P6, T6, K6, HR9⟩
            replace HR9 := hide HR9
            have HD9 := hide (HD5.out.r T6 K6)
            clear T6 K6 HS2 HD5
            have HN := hide (next2 HD9.out.tm)
            go_wp2_with fail
            refine HN.out.mono ?_
            rintro e n1 ⟨rfl, N1⟩
            have DN1 := hide (HD9.out.cl N1)
            clear N1 HN
            have HN := hide (rnext2 DN1.out.rm DN1.out.tm.inv HTb.out HR9.out)
            go_wp2_with fail
            refine HN.out.mono ?_
            rintro e n2 ⟨rfl, N2⟩
            have DN2 := hide (DN1.out.cl N2)
            clear N2 HN DN1
            obtain ⟨vl, vg, hro, -⟩ := DN2.out.rm.obj
            have rc1 := hro.c1
            obtain ⟨la, lc, hvl, -⟩ := hro.l.shape
            rw [HR9.out.len] at hvl
            subst hvl
            have HLn := hide (fun q => len2 DN2.out.tm q)
            obtain ⟨dl, Hdl⟩ : ∃ dl, Hid (D3.length = dl) := ⟨_, hide rfl⟩
            obtain ⟨nx, Hnx⟩ : ∃ nx, Hid (nxt S D3 = nx) := ⟨_, hide rfl⟩
            rw [Hdl.out] at HLn rc1
            rw [Hdl.out, Hnx.out]
            clear hro
            go_wp2_with fail
            go_quiet ((go_at_call 23; exact Calls.quiet_of_same (HLn.out _)))
            go_wp2_with fail
            go_roundw
            case rel => exact ⟨j + 1, by omega, by go_num, hide ⟨_, _, _, _, _, _, _, _, _, hs, (DN2.out.cl (Fr.drewN (fun _ => False) _ _)).drop, HR9.out, HTj.out, HHl.out, HHx.out⟩⟩
            case measure => simp [intOf]; omega
          · have HN0 : Hid (tm < 9223372036854775808) := hide htop
            by_cases hk0 : 0 ≤ tm
            · have hk1 : ¬ tm < hs.length := fun e => hk ⟨hk0, e⟩
              have hk2 : (hs.length : Int) ≤ tm := by omega
              clear hk
              have HTj : Hid (turns ≤ ((j + 1 : Nat) : Int)) := hide (by have := HT0.out; omega)
              have HHl : Hid (hs.length ≤ j + 1) := hide (by have := HH0.out; omega)
              have HHx := HX0
              have HB := hide (d_has HD1.out HRl.out tm HN0.out)
              go_wp2_with fail
              refine HB.out.mono ?_
              rintro e w3 ⟨r, rfl, rfl, R3⟩
              have HB2 := hide (R3 _ R HD1.out.rm)
              clear R3 HB
              go_wp2_with fail
              refine HB2.out.mono ?_
              rintro e w4 ⟨rfl, C4⟩
              have HD4 := hide (HD1.out.cl C4)
              clear C4 HB2
              have HS := hide (d_cancel HD4.out HRl.out HTb.out tm HN0.out)
              go_wp2_with fail
              refine HS.out.mono ?_
              rintro e w5 ⟨r5, D3, F3, M3, rfl, D5, R5⟩
              have HD5 := hide D5
              have HS2 := hide (R5 w5 R D5.rm)
              clear D5 R5 HS HD4
              go_wp2_with fail
              refine HS2.out.mono ?_
              rintro e w6 ⟨rfl, L6, R6, P6, T6, K6, HR9⟩
              replace HR9 := hide HR9
              have HD9 := hide (HD5.out.r T6 K6)
              clear T6 K6 HS2 HD5
              have HN := hide (next2 HD9.out.tm)
              go_wp2_with fail
              refine HN.out.mono ?_
              rintro e n1 ⟨rfl, N1⟩
              have DN1 := hide (HD9.out.cl N1)
              clear N1 HN
              have HN := hide (rnext2 DN1.out.rm DN1.out.tm.inv HTb.out HR9.out)
              go_wp2_with fail
              refine HN.out.mono ?_
              rintro e n2 ⟨rfl, N2⟩
              have DN2 := hide (DN1.out.cl N2)
              clear N2 HN DN1
              obtain ⟨vl, vg, hro, -⟩ := DN2.out.rm.obj
              have rc1 := hro.c1
              obtain ⟨la, lc, hvl, -⟩ := hro.l.shape
              rw [HR9.out.len] at hvl
              subst hvl
              have HLn := hide (fun q => len2 DN2.out.tm q)
              obtain ⟨dl, Hdl⟩ : ∃ dl, Hid (D3.length = dl) := ⟨_, hide rfl⟩
              obtain ⟨nx, Hnx⟩ : ∃ nx, Hid (nxt S D3 = nx) := ⟨_, hide rfl⟩
              rw [Hdl.out] at HLn rc1
              rw [Hdl.out, Hnx.out]
              clear hro
              go_wp2_with fail
              go_quiet ((go_at_call 23; exact Calls.quiet_of_same (HLn.out _)))
              go_wp2_with fail
              go_roundw
              case rel => exact ⟨j + 1, by omega, by go_num, hide ⟨_, _, _, _, _, _, _, _, _, hs, (DN2.out.cl (Fr.drewN (fun _ => False) _ _)).drop, HR9.out, HTj.out, HHl.out, HHx.out⟩⟩
              case measure => simp [intOf]; omega
            · have hk1 : tm < 0 := by omega
              clear hk
              have HTj : Hid (turns ≤ ((j + 1 : Nat) : Int)) := hide (by have := HT0.out; omega)
              have HHl : Hid (hs.length ≤ j + 1) := hide (by have := HH0.out; omega)
              have HHx := HX0
              have HB := hide (d_has HD1.out HRl.out tm HN0.out)
              go_wp2_with fail
              refine HB.out.mono ?_
              rintro e w3 ⟨r, rfl, rfl, R3⟩
              have HB2 := hide (R3 _ R HD1.out.rm)
              clear R3 HB
              go_wp2_with fail
              refine HB2.out.mono ?_
              rintro e w4 ⟨rfl, C4⟩
              have HD4 := hide (HD1.out.cl C4)
              clear C4 HB2
              have HS := hide (d_cancel HD4.out HRl.out HTb.out tm HN0.out)
              go_wp2_with fail
              refine HS.out.mono ?_
              rintro e w5 ⟨r5, D3, F3, M3, rfl, D5, R5⟩
              have HD5 := hide D5
              have HS2 := hide (R5 w5 R D5.rm)
              clear D5 R5 HS HD4
              go_wp2_with fail
              refine HS2.out.mono ?_
              rintro e w6 ⟨rfl, L6, R6, P6, T6, K6, HR9⟩
              replace HR9 := hide HR9
              have HD9 := hide (HD5.out.r T6 K6)
              clear T6 K6 HS2 HD5
              have HN := hide (next2 HD9.out.tm)
              go_wp2_with fail
              refine HN.out.mono ?_
              rintro e n1 ⟨rfl, N1⟩
              have DN1 := hide (HD9.out.cl N1)
              clear N1 HN
              have HN := hide (rnext2 DN1.out.rm DN1.out.tm.inv HTb.out HR9.out)
              go_wp2_with fail
              refine HN.out.mono ?_
              rintro e n2 ⟨rfl, N2⟩
              have DN2 := hide (DN1.out.cl N2)
              clear N2 HN DN1
              obtain ⟨vl, vg, hro, -⟩ := DN2.out.rm.obj
              have rc1 := hro.c1
              obtain ⟨la, lc, hvl, -⟩ := hro.l.shape
              rw [HR9.out.len] at hvl
              subst hvl
              have HLn := hide (fun q => len2 DN2.out.tm q)
              obtain ⟨dl, Hdl⟩ : ∃ dl, Hid (D3.length = dl) := ⟨_, hide rfl⟩
              obtain ⟨nx, Hnx⟩ : ∃ nx, Hid (nxt S D3 = nx) := ⟨_, hide rfl⟩
              rw [Hdl.out] at HLn rc1
              rw [Hdl.out, Hnx.out]
              clear hro
              go_wp2_with fail
              go_quiet ((go_at_call 23; exact Calls.quiet_of_same (HLn.out _)))
              go_wp2_with fail
              go_roundw
              case rel => exact ⟨j + 1, by omega, by go_num, hide ⟨_, _, _, _, _, _, _, _, _, hs, (DN2.out.cl (Fr.drewN (fun _ => False) _ _)).drop, HR9.out, HTj.out, HHl.out, HHx.out⟩⟩
              case measure => simp [intOf]; omega
        · by_cases k2 : kd = 2
          · subst k2
            clear k0 k1
            have HTj : Hid (turns ≤ ((j + 1 : Nat) : Int)) := hide (by have := HT0.out; omega)
            have HHl : Hid (hs.length ≤ j + 1) := hide (by have := HH0.out; omega)
            have HHx := HX0
            have kz := (HD1.out.kz _ rfl).1
            have sd : (wr.alloc (.cells #[.int .i64 2, .int .i64 tm, .int .i64 key] 33)).drew.cell? ⟨wr.heap.size, 1, none⟩ = some (.int .i64 tm) := (cell_of kz 1).trans rfl
            have HD2 : Hid (Duo W (wr.alloc (.cells #[.int .i64 2, .int .i64 tm, .int .i64 key] 33)).drew _ _ _ _ _ _ _ _ _ _ _ _ _ _) := hide (HD1.out.cl (Fr.drewN (fun _ => False) _ 1))
            have HS := hide (d_fire HD2.out HRl.out HTb.out tm)
            have HLo : Hid (∀ k, R k → k < (wr.alloc (.cells #[.int .i64 2, .int .i64 tm, .int .i64 key] 33)).drew.heap.size) := hide (fun k hk => (HD2.out.loR k hk).2)
            clear HD1 kz
            go_wp2_with fail
            refine wp_region_noPanic ?_
            refine wp_region_held_drew (S := fun w' => w'.cell? ⟨wr.heap.size, 1, none⟩ = some (.int .i64 tm)) (by kernel_rfl) sd (fun hHeld => ?_)
            refine wpAnyH_take (i := 0) (v := ?_) rfl (by kernel_rfl) (by kernel_rfl) (by kernel_rfl) (fun _ _ _ h => h) (Or.inl ⟨by rfl, ?_⟩) (by assumption) ?_
            rotate_left
            · (intro w hSw; (try dsimp only at hSw); go_simp; try with_reducible rfl)
            simp only [List.getElem_toArray, List.getElem_cons_zero, Act.put, List.setIfInBounds_toArray, List.set_cons_zero, List.set_cons_succ]
            refine wpAnyH_take (i := 1) (v := ?_) rfl (by kernel_rfl) (by kernel_rfl) (by kernel_rfl) (fun _ _ _ h => h) (Or.inl ⟨by rfl, ?_⟩) (by assumption) ?_
            rotate_left
            · (intro w hSw; (try dsimp only at hSw); go_simp; try with_reducible rfl)
            simp only [List.getElem_toArray, List.getElem_cons_zero, List.getElem_cons_succ, Act.put, List.setIfInBounds_toArray, List.set_cons_zero, List.set_cons_succ]
            refine wpAnyH_take (i := 2) (v := ?_) rfl (by kernel_rfl) (by kernel_rfl) (by kernel_rfl) (fun _ _ _ h => h) (Or.inl ⟨by rfl, ?_⟩) (by assumption) ?_
            rotate_left
            · (intro w hSw; (try dsimp only at hSw); go_simp; try with_reducible rfl)
            simp only [List.getElem_toArray, List.getElem_cons_zero, List.getElem_cons_succ, Act.put, List.setIfInBounds_toArray, List.set_cons_zero, List.set_cons_succ]
            refine wpAnyH_take (i := 4) (v := ?_) rfl (by kernel_rfl) (by kernel_rfl) (by kernel_rfl) (fun _ _ _ h => h) (Or.inl ⟨by rfl, ?_⟩) (by assumption) ?_
            rotate_left
            · (intro w hSw; (try dsimp only at hSw); go_simp; try with_reducible rfl)
            simp only [List.getElem_toArray, List.getElem_cons_zero, List.getElem_cons_succ, Act.put, List.setIfInBounds_toArray, List.set_cons_zero, List.set_cons_succ]
            refine wpAnyH_take (i := 5) (v := ?_) rfl (by kernel_rfl) (by kernel_rfl) (by kernel_rfl) (fun _ _ _ h => h) (Or.inl ⟨by rfl, ?_⟩) (by assumption) ?_
            rotate_left
            · (intro w hSw; (try dsimp only at hSw); go_simp; try with_reducible rfl)
            simp only [List.getElem_toArray, List.getElem_cons_zero, List.getElem_cons_succ, Act.put, List.setIfInBounds_toArray, List.set_cons_zero, List.set_cons_succ]
            refine wpAnyH_take (i := 6) (v := ?_) rfl (by kernel_rfl) (by kernel_rfl) (by kernel_rfl) (fun _ _ _ h => h) (Or.inl ⟨by rfl, ?_⟩) (by assumption) ?_
            rotate_left
            · (intro w hSw; (try dsimp only at hSw); go_simp; try with_reducible rfl)
            simp only [List.getElem_toArray, List.getElem_cons_zero, List.getElem_cons_succ, Act.put, List.setIfInBounds_toArray, List.set_cons_zero, List.set_cons_succ]
            refine wpAnyH_ready (rs := [3]) (by kernel_rfl) (by simp) ?_
            refine AllReadyH.cons rfl (fun K hK => ?_) AllReadyH.nil
            go_simp
            refine HS.out.mono ?_
            rintro e w3 ⟨u3, ks, D3, F3, M3, rfl, D3d, row3, hks, R3⟩
            have s3 : w3.cell? ⟨wr.heap.size, 1, none⟩ = some (.int .i64 tm) := (cell_of (D3d.kz _ rfl).1 1).trans rfl
            have HD3 := hide D3d
            have HS2 := hide (R3 w3 R D3d.rm)
            have HRow := hide row3
            clear D3d R3 row3 HS
            go_wp2_with fail
            refine hK.out _ _ s3 (fun hHeld => ?_)
            clear hK K
            try simp only [List.getElem_toArray, List.getElem_cons_zero, List.getElem_cons_succ, Act.put, List.setIfInBounds_toArray, List.set_cons_zero, List.set_cons_succ]
            refine wpAnyH_ready (rs := [7]) (by kernel_rfl) (by simp) ?_
            refine AllReadyH.cons rfl (fun K hK => ?_) AllReadyH.nil
            go_simp
            refine HS2.out.mono ?_
            rintro e w4 ⟨u4, L4, R4, P4, rfl, T4, K4, row4, HR9⟩
            replace HR9 := hide HR9
            have HD4 := hide (HD3.out.r T4 K4)
            have s4 : w4.cell? ⟨wr.heap.size, 1, none⟩ = some (.int .i64 tm) := (cell_of (HD4.out.kz _ rfl).1 1).trans rfl
            have HI3 := hide (ints_any (SlI.row (owns_frame HRow.out K4.fr (fun g hg hR => by have := (owns_block HRow.out hg).1; have := HLo.out g hR; omega))) (SlI.row row4) (by omega))
            rw [decide_eq_true (rfl : ks = ks)] at HI3
            clear T4 K4 row4 HS2 HRow HD3 s3
            go_wp2_with fail
            refine hK.out _ _ s4 (fun hHeld => ?_)
            clear hK K
            try simp only [List.getElem_toArray, List.getElem_cons_zero, List.getElem_cons_succ, Act.put, List.setIfInBounds_toArray, List.set_cons_zero, List.set_cons_succ]
            refine wpAnyH_ready (rs := [8]) (by kernel_rfl) (by simp) ?_
            refine AllReadyH.cons rfl (fun K hK => ?_) AllReadyH.nil
            go_simp
            refine HI3.out.mono ?_
            rintro e w5 ⟨rfl, C5⟩
            have HD9 := hide (HD4.out.cl C5)
            have s5 : w5.cell? ⟨wr.heap.size, 1, none⟩ = some (.int .i64 tm) := (cell_of (HD9.out.kz _ rfl).1 1).trans rfl
            clear C5 HI3 HD4 s4
            go_wp2_with fail
            refine hK.out _ _ s5 (fun hHeld => ?_)
            clear hK K
            try simp only [List.getElem_toArray, List.getElem_cons_zero, List.getElem_cons_succ, Act.put, List.setIfInBounds_toArray, List.set_cons_zero, List.set_cons_succ]
            refine wpAnyH_take (i := 9) (v := ?_) rfl (by kernel_rfl) (by kernel_rfl) (by kernel_rfl) (fun _ _ _ h => h) (Or.inl ⟨by rfl, ?_⟩) (by assumption) ?_
            rotate_left
            · (intro w hSw; (try dsimp only at hSw); go_simp; try with_reducible rfl)
            simp only [List.getElem_toArray, List.getElem_cons_zero, List.getElem_cons_succ, Act.put, List.setIfInBounds_toArray, List.set_cons_zero, List.set_cons_succ]
            refine wpAnyH_done (by kernel_rfl) ?_ _
            refine NoPanic.normal ?_
            clear sd hHeld s5 HD2 HLo
            have HN := hide (next2 HD9.out.tm)
            go_wp2_with fail
            refine HN.out.mono ?_
            rintro e n1 ⟨rfl, N1⟩
            have DN1 := hide (HD9.out.cl N1)
            clear N1 HN
            have HN := hide (rnext2 DN1.out.rm DN1.out.tm.inv HTb.out HR9.out)
            go_wp2_with fail
            refine HN.out.mono ?_
            rintro e n2 ⟨rfl, N2⟩
            have DN2 := hide (DN1.out.cl N2)
            clear N2 HN DN1
            obtain ⟨vl, vg, hro, -⟩ := DN2.out.rm.obj
            have rc1 := hro.c1
            obtain ⟨la, lc, hvl, -⟩ := hro.l.shape
            rw [HR9.out.len] at hvl
            subst hvl
            have HLn := hide (fun q => len2 DN2.out.tm q)
            obtain ⟨dl, Hdl⟩ : ∃ dl, Hid (D3.length = dl) := ⟨_, hide rfl⟩
            obtain ⟨nx, Hnx⟩ : ∃ nx, Hid (nxt S D3 = nx) := ⟨_, hide rfl⟩
            rw [Hdl.out] at HLn rc1
            rw [Hdl.out, Hnx.out]
            clear hro
            go_wp2_with fail
            go_quiet ((go_at_call 23; exact Calls.quiet_of_same (HLn.out _)))
            go_wp2_with fail
            go_roundw
            case rel => exact ⟨j + 1, by omega, by go_num, hide ⟨_, _, _, _, _, _, _, _, _, hs, (DN2.out.cl (Fr.drewN (fun _ => False) _ _)).drop, HR9.out, HTj.out, HHl.out, HHx.out⟩⟩
            case measure => simp [intOf]; omega
          · have e0 : (kd == 0) = false := beq_eq_false_iff_ne.2 k0
            have e1 : (kd == 1) = false := beq_eq_false_iff_ne.2 k1
            have e2 : (kd == 2) = false := beq_eq_false_iff_ne.2 k2
            clear k0 k1 k2
            have HTj : Hid (turns ≤ ((j + 1 : Nat) : Int)) := hide (by have := HT0.out; omega)
            have HHl : Hid (hs.length ≤ j + 1) := hide (by have := HH0.out; omega)
            have HHx := HX0
            have kz := (HD1.out.kz _ rfl).1
            have sd : (wr.alloc (.cells #[.int .i64 kd, .int .i64 tm, .int .i64 key] 33)).drew.cell? ⟨wr.heap.size, 1, none⟩ = some (.int .i64 tm) := (cell_of kz 1).trans rfl
            have HD2 : Hid (Duo W (wr.alloc (.cells #[.int .i64 kd, .int .i64 tm, .int .i64 key] 33)).drew _ _ _ _ _ _ _ _ _ _ _ _ _ _) := hide (HD1.out.cl (Fr.drewN (fun _ => False) _ 1))
            have HS := hide (d_cancel HD2.out HRl.out HTb.out tm htop)
            clear HD1 kz htop
            go_wp2_with fail
            refine wp_region_noPanic ?_
            refine wp_region_held_drew (S := fun w' => w'.cell? ⟨wr.heap.size, 1, none⟩ = some (.int .i64 tm)) (by kernel_rfl) sd (fun hHeld => ?_)
            refine wpAnyH_take (i := 0) (v := ?_) rfl (by kernel_rfl) (by kernel_rfl) (by kernel_rfl) (fun _ _ _ h => h) (Or.inl ⟨by rfl, ?_⟩) (by assumption) ?_
            rotate_left
            · (intro w hSw; (try dsimp only at hSw); go_simp; try with_reducible rfl)
            simp only [List.getElem_toArray, List.getElem_cons_zero, Act.put, List.setIfInBounds_toArray, List.set_cons_zero, List.set_cons_succ]
            refine wpAnyH_take (i := 1) (v := ?_) rfl (by kernel_rfl) (by kernel_rfl) (by kernel_rfl) (fun _ _ _ h => h) (Or.inl ⟨by rfl, ?_⟩) (by assumption) ?_
            rotate_left
            · (intro w hSw; (try dsimp only at hSw); go_simp; try with_reducible rfl)
            simp only [List.getElem_toArray, List.getElem_cons_zero, List.getElem_cons_succ, Act.put, List.setIfInBounds_toArray, List.set_cons_zero, List.set_cons_succ]
            refine wpAnyH_take (i := 2) (v := ?_) rfl (by kernel_rfl) (by kernel_rfl) (by kernel_rfl) (fun _ _ _ h => h) (Or.inl ⟨by rfl, ?_⟩) (by assumption) ?_
            rotate_left
            · (intro w hSw; (try dsimp only at hSw); go_simp; try with_reducible rfl)
            simp only [List.getElem_toArray, List.getElem_cons_zero, List.getElem_cons_succ, Act.put, List.setIfInBounds_toArray, List.set_cons_zero, List.set_cons_succ]
            refine wpAnyH_take (i := 4) (v := ?_) rfl (by kernel_rfl) (by kernel_rfl) (by kernel_rfl) (fun _ _ _ h => h) (Or.inl ⟨by rfl, ?_⟩) (by assumption) ?_
            rotate_left
            · (intro w hSw; (try dsimp only at hSw); go_simp; try with_reducible rfl)
            simp only [List.getElem_toArray, List.getElem_cons_zero, List.getElem_cons_succ, Act.put, List.setIfInBounds_toArray, List.set_cons_zero, List.set_cons_succ]
            refine wpAnyH_take (i := 5) (v := ?_) rfl (by kernel_rfl) (by kernel_rfl) (by kernel_rfl) (fun _ _ _ h => h) (Or.inl ⟨by rfl, ?_⟩) (by assumption) ?_
            rotate_left
            · (intro w hSw; (try dsimp only at hSw); go_simp; try with_reducible rfl)
            simp only [List.getElem_toArray, List.getElem_cons_zero, List.getElem_cons_succ, Act.put, List.setIfInBounds_toArray, List.set_cons_zero, List.set_cons_succ]
            refine wpAnyH_take (i := 6) (v := ?_) rfl (by kernel_rfl) (by kernel_rfl) (by kernel_rfl) (fun _ _ _ h => h) (Or.inl ⟨by rfl, ?_⟩) (by assumption) ?_
            rotate_left
            · (intro w hSw; (try dsimp only at hSw); go_simp; try with_reducible rfl)
            simp only [List.getElem_toArray, List.getElem_cons_zero, List.getElem_cons_succ, Act.put, List.setIfInBounds_toArray, List.set_cons_zero, List.set_cons_succ]
            refine wpAnyH_ready (rs := [3]) (by kernel_rfl) (by simp) ?_
            refine AllReadyH.cons rfl (fun K hK => ?_) AllReadyH.nil
            go_simp
            refine HS.out.mono ?_
            rintro e w5 ⟨r5, D3, F3, M3, rfl, D5, R5⟩
            have s3 : w5.cell? ⟨wr.heap.size, 1, none⟩ = some (.int .i64 tm) := (cell_of (D5.kz _ rfl).1 1).trans rfl
            have HD5 := hide D5
            have HS2 := hide (R5 w5 R D5.rm)
            clear D5 R5 HS
            go_wp2_with fail
            refine hK.out _ _ s3 (fun hHeld => ?_)
            clear hK K
            try simp only [List.getElem_toArray, List.getElem_cons_zero, List.getElem_cons_succ, Act.put, List.setIfInBounds_toArray, List.set_cons_zero, List.set_cons_succ]
            refine wpAnyH_ready (rs := [7]) (by kernel_rfl) (by simp) ?_
            refine AllReadyH.cons rfl (fun K hK => ?_) AllReadyH.nil
            go_simp
            refine HS2.out.mono ?_
            rintro e w6 ⟨rfl, L6, R6, P6, T6, K6, HR9⟩
            replace HR9 := hide HR9
            have HD9 := hide (HD5.out.r T6 K6)
            have s4 : w6.cell? ⟨wr.heap.size, 1, none⟩ = some (.int .i64 tm) := (cell_of (HD9.out.kz _ rfl).1 1).trans rfl
            clear T6 K6 HS2 HD5 s3
            go_wp2_with fail
            refine hK.out _ _ s4 (fun hHeld => ?_)
            clear hK K
            try simp only [List.getElem_toArray, List.getElem_cons_zero, List.getElem_cons_succ, Act.put, List.setIfInBounds_toArray, List.set_cons_zero, List.set_cons_succ]
            refine wpAnyH_take (i := 8) (v := ?_) rfl (by kernel_rfl) (by kernel_rfl) (by kernel_rfl) (fun _ _ _ h => h) (Or.inl ⟨by rfl, ?_⟩) (by assumption) ?_
            rotate_left
            · (intro w hSw; (try dsimp only at hSw); go_simp; try with_reducible rfl)
            simp only [List.getElem_toArray, List.getElem_cons_zero, List.getElem_cons_succ, Act.put, List.setIfInBounds_toArray, List.set_cons_zero, List.set_cons_succ]
            refine wpAnyH_done (by kernel_rfl) ?_ _
            refine NoPanic.normal ?_
            clear sd hHeld s4 HD2
            have HN := hide (next2 HD9.out.tm)
            go_wp2_with fail
            refine HN.out.mono ?_
            rintro e n1 ⟨rfl, N1⟩
            have DN1 := hide (HD9.out.cl N1)
            clear N1 HN
            have HN := hide (rnext2 DN1.out.rm DN1.out.tm.inv HTb.out HR9.out)
            go_wp2_with fail
            refine HN.out.mono ?_
            rintro e n2 ⟨rfl, N2⟩
            have DN2 := hide (DN1.out.cl N2)
            clear N2 HN DN1
            obtain ⟨vl, vg, hro, -⟩ := DN2.out.rm.obj
            have rc1 := hro.c1
            obtain ⟨la, lc, hvl, -⟩ := hro.l.shape
            rw [HR9.out.len] at hvl
            subst hvl
            have HLn := hide (fun q => len2 DN2.out.tm q)
            obtain ⟨dl, Hdl⟩ : ∃ dl, Hid (D3.length = dl) := ⟨_, hide rfl⟩
            obtain ⟨nx, Hnx⟩ : ∃ nx, Hid (nxt S D3 = nx) := ⟨_, hide rfl⟩
            rw [Hdl.out] at HLn rc1
            rw [Hdl.out, Hnx.out]
            clear hro
            go_wp2_with fail
            go_quiet ((go_at_call 23; exact Calls.quiet_of_same (HLn.out _)))
            go_wp2_with fail
            go_roundw
            case rel => exact ⟨j + 1, by omega, by go_num, hide ⟨_, _, _, _, _, _, _, _, _, hs, (DN2.out.cl (Fr.drewN (fun _ => False) _ _)).drop, HR9.out, HTj.out, HHl.out, HHx.out⟩⟩
            case measure => simp [intOf]; omega
    · have ej : j = len1 := by omega
      subst ej
      have HF := hide HD.old
      clear hst HD HI
      go_wp2_with fail
      refine (speaks_any _).mono ?_
      rintro e w9 ⟨rfl, F9⟩
      replace HF := hide (HF.out.trans F9.out (fun _ _ e => e.elim))
      clear F9
      go_wp2_with fail
      go_ret
      exact ⟨rfl, HF.out.below (Nat.le_refl _) (fun k hk e => by omega)⟩
end Go.Proofs.Ytbmhhkpehilioaa
