/- TimersNext holds for every row of numbers: nothing fires ahead of the moment that Next tells, and at it something does. -/
import Derived.Test.YtbmhhkpehilioaaRows
import Derived.Test.YtbmhhkpehilioaaSays
import Derived.WalkKit
import Derived.ProofKit
import Derived.OpenShut
import Derived.ShutString
import Derived.ChangeOld
import Derived.Below
namespace Go.Proofs.Ytbmhhkpehilioaa.timersNext
open Go.ChangeShapes Go.WideShapes Go.ChangeAt Go.RowKit
open Go.ChangeMaps (open_string shut_string)
set_option linter.unusedVariables false

theorem own : ownKnob Try.prog.godebug = none := by kernel_rfl
theorem laidOut : laidOutB Try.prog = true := by kernel_rfl

def IsRow (k : IntKind) (w : World) (a : Option Addr) (len cap : Nat) (zs : List Int) : Prop :=
  (a = none ∧ len = 0 ∧ cap = 0 ∧ zs = []) ∨
  ∃ x, a = some x ∧ len ≤ cap ∧ cap ≤ maxLen ∧ zs.length = cap ∧ (∀ i, i < zs.length → w.cell? (x.add i) = some (.int k (zs.getD i 0))) ∧ ∀ n ∈ zs, (Lit.int k n).wf = true

theorem addr_add (b off i : Nat) : (⟨b, off, none⟩ : Addr).add i = ⟨b, off + i, none⟩ := by
  unfold Addr.add
  by_cases h : i = 0
  · subst h; rfl
  · simp [h]
structure NInv (w1 : World) (base : Nat) (M0 : Nat → Prop) (c : Nat) (wr : World) : Prop where
  ex : ∃ turns S D F M, Tm wr base base 64 turns S D F M ∧ turns ≤ 64 ∧ D.length ≤ c ∧ Kept w1 wr M0 M ∧ (turns : Int) ≤ (c : Int)
structure NInv2 (w1 : World) (base : Nat) (M0 : Nat → Prop) (c : Nat) (wr : World) : Prop where
  ex : ∃ turns S D F M, Tm wr base base 64 turns S D F M ∧ turns ≤ 64 ∧ D.length + c ≤ 64 ∧ Kept w1 wr M0 M

theorem walk (a0 : Option Addr) (len0 cap0 : Nat) (z0 : List Int) (w : World) (w0 : IsRow .i64 w a0 len0 cap0 z0) :
    Calls Try.prog 7 #[.slice a0 len0 cap0] w fun e w' => e = .returned (.bool true) ∧ Below w.heap.size w w' := by
  have key : ∀ (cellAt : ∀ j, j < len0 → ∃ b off, a0 = some ⟨b, off, none⟩ ∧ w.cell? ⟨b, off + j, none⟩ = some (.int .i64 (z0.getD j 0))) (hmx : len0 ≤ maxLen), Calls Try.prog 7 #[.slice a0 len0 cap0] w fun e w' => e = .returned (.bool true) ∧ Below w.heap.size w w' := by
    intro cellAt hmx
    have hmx2 : len0 ≤ 9223372036854775807 := hmx
    have CA := hide cellAt
    clear cellAt hmx w0
    go_enter Try.func7, Try.ntmps7
    go_wp2_with fail
    refine (new_any w 64 (by omega) (by omega)).mono ?_
    rintro e w1 ⟨rfl, T1, C1, z1⟩
    have HC1 := hide C1
    have I0 : Hid (NInv w1 w.heap.size (fun k => k = w.heap.size) (min 0 64) w1) := hide ⟨⟨0, [], [], [], _, T1, by omega, by simp, Kept.cl (Cl.refl _), by simp⟩⟩
    clear T1 C1 z1
    go_wp2_with fail
    go_loopw [22] (fun v wr => ∃ j : Nat, j ≤ len0 ∧ v = .int .i64 (j : Int) ∧ Hid (NInv w1 w.heap.size (fun k => k = w.heap.size) (min j 64) wr)) (fun v _ => len0 - (intOf v).toNat)
    case atStart => exact ⟨0, Nat.zero_le _, rfl, I0⟩
    case round =>
      clear I0
      obtain ⟨j, hj, rfl, HI⟩ := hrel
      by_cases hlt : j < len0
      · obtain ⟨b, off, rfl, c0⟩ := CA.out j hlt
        obtain ⟨turns, S, DD, F, M, T, t1, t2, K, t3⟩ := HI.out.ex
        have hbl := World.block_lt_of_cell? w _ c0
        have c1 : wr.cell? ⟨b, off + j, none⟩ = some (.int .i64 (z0.getD j 0)) := by
          have f1 : Fr (fun k => k = w.heap.size) w wr := (HC1.out.out.mono (T := fun k => k = w.heap.size) (fun _ _ x => x.elim)).trans K.fr (fun _ _ x => x)
          exact (World.cell?_of_block (f1.block b hbl (by show b ≠ w.heap.size; exact Nat.ne_of_lt hbl))).trans c0
        obtain ⟨x, Hx⟩ : ∃ x, Hid (z0.getD j 0 = x) := ⟨_, hide rfl⟩
        rw [Hx.out] at c1
        by_cases h64 : j < 64
        · have h64i : (j : Int) < 64 := by omega
          by_cases hm : 0 ≤ x ∧ x ≤ 4611686018427387904
          · have hs := hide (set_any T (by omega) x (j : Int) hm (by omega))
            have HK := hide K
            have T1 := hide t1
            have T3 := hide t3
            have T2 := hide t2
            clear T K c0 HI CA hm t1 t2 t3
            go_wp2_with fail
            refine hs.out.mono ?_
            rintro e w2 ⟨i, S1, D2, F2, M2, rfl, pl, T2', p2, K2⟩
            have hl : D2.length = DD.length + 1 := by have := p2.length_eq; simpa using this
            have I2 : Hid (NInv w1 w.heap.size (fun k => k = w.heap.size) (min (j + 1) 64) w2) := hide ⟨⟨_, _, D2, F2, M2, T2', by have := T3.out; omega, by have := T2.out; omega, HK.out.trans K2, by have := T3.out; omega⟩⟩
            clear T2' p2 K2 pl hs hl
            go_wp2_with fail
            go_roundw
            case rel => exact ⟨j + 1, by omega, by go_num, I2⟩
            case measure => simp [intOf]; omega
          · have hs := hide (set_bad wr (.pointer (some ⟨w.heap.size, 0, none⟩)) (.inr ⟨_, rfl⟩) x (j : Int) hm)
            have I2 : Hid (NInv w1 w.heap.size (fun k => k = w.heap.size) (min (j + 1) 64) wr) := hide ⟨⟨_, _, DD, F, M, T, t1, by omega, K, by omega⟩⟩
            clear T K c0 HI CA hm t1 t2 t3
            go_wp2_with fail
            refine hs.out.mono ?_
            rintro e w2 ⟨rfl, rfl⟩
            clear hs
            go_wp2_with fail
            go_roundw
            case rel => exact ⟨j + 1, by omega, by go_num, I2⟩
            case measure => simp [intOf]; omega
        · have h64i : ¬ (j : Int) < 64 := by omega
          have I2 : Hid (NInv w1 w.heap.size (fun k => k = w.heap.size) (min (j + 1) 64) wr) := hide ⟨⟨_, _, DD, F, M, T, t1, by omega, K, by omega⟩⟩
          clear T K c0 HI CA t1 t2 t3
          go_wp2_with fail
          go_roundw
          case rel => exact ⟨j + 1, by omega, by go_num, I2⟩
          case measure => simp [intOf]; omega
      · have J0 : Hid (NInv2 w1 w.heap.size (fun k => k = w.heap.size) 0 wr) := by
          obtain ⟨turns, S, DD, F, M, T, t1, t2, K, t3⟩ := HI.out.ex
          exact hide ⟨⟨turns, S, DD, F, M, T, t1, by omega, K⟩⟩
        clear HI CA
        go_wp2_with fail
        go_loopw [7] (fun v ws => ∃ k : Nat, k ≤ 64 ∧ v = .int .i64 (k : Int) ∧ Hid (NInv2 w1 w.heap.size (fun k => k = w.heap.size) k ws)) (fun v _ => 65 - (intOf v).toNat)
        case atStart => exact ⟨0, by omega, rfl, J0⟩
        case round =>
          clear J0
          obtain ⟨k, hk, rfl, HI⟩ := hrel
          obtain ⟨turns, S, DD, F, M, T, t1, t2, K⟩ := HI.out.ex
          have hk65 : (k : Int) < 65 := by omega
          by_cases h0 : DD.length = 0
          · have hn := hide (next_none T h0)
            obtain ⟨vs, vd, vf, ho, _⟩ := T.obj
            have hl := len_any ho
            rw [h0] at hl
            have HL := hide hl
            have HK := hide K
            clear T K ho hl HI
            go_wp2_with (first | (go_at_call 21; refine hn.out.mono ?_; rintro e w' ⟨rfl, rfl⟩) | (go_at_call 23; refine HL.out.mono ?_; rintro e w' ⟨rfl, rfl⟩) | (go_at_call 11; refine (speaks_any _).mono ?_; rintro e wz ⟨rfl, hg⟩))
            go_ret
            exact ⟨rfl, ((HC1.out.out.trans HK.out.fr (fun i hi hm => by omega)).trans hg.out (fun _ _ x => x)).below (Nat.le_refl _) (fun _ _ x => x)⟩
          · have h0' : 0 < DD.length := by omega
            have hn := hide (next_some T h0')
            have hwn := T.inv.sl _ (T.inv.memD (gt_mem DD 0 h0'))
            have hfst : Hid (∀ y, y ∈ DD → (sg S (gt DD 0)).when ≤ (sg S y).when) := hide (fun y hy => by
              have h1 := T.inv.hD.least_mem hy
              have h2 := T.inv.sl y (T.inv.memD hy)
              unfold rk at h1
              omega)
            have hmem : Hid (∃ y, y ∈ DD ∧ (sg S y).when = (sg S (gt DD 0)).when) := hide ⟨_, gt_mem DD 0 h0', rfl⟩
            obtain ⟨n, Hn⟩ : ∃ n, Hid ((sg S (gt DD 0)).when = n) := ⟨_, hide rfl⟩
            rw [Hn.out] at hn hfst hmem hwn
            have hn0 : 0 ≤ n := hwn.2.2.2.2.1
            have hn1 : n ≤ 4611686018427387904 := hwn.2.2.2.2.2
            have HT := hide T
            have HK := hide K
            clear T K HI hwn
            go_wp2_with fail
            refine hn.out.mono ?_
            rintro e w2 ⟨rfl, C2⟩
            have HC2 := hide C2
            have hf := hide (fire_any (HT.out.cl C2) (by omega) (n - 1))
            clear C2 hn
            go_wp2_with fail
            refine hf.out.mono ?_
            rintro e w3 ⟨v3, D3, F3, M3, fired, rfl, fd, hd3⟩
            have ef : fired = [] := by
              cases fired with
              | nil => rfl
              | cons y l =>
                have h1 := fd.due y List.mem_cons_self
                have h2 := hfst.out y (fd.perm.subset (List.mem_append.2 (.inl List.mem_cons_self)))
                omega
            subst ef
            have p3 : D3.Perm DD := by have := fd.perm; simpa using this
            have hl3 : D3.length = DD.length := p3.length_eq
            obtain ⟨a3, c3, hv3, _⟩ := owns_shape fd.row
            rw [List.length_nil] at hv3
            subst hv3
            have HFD := hide fd
            have HP3 := hide p3
            have hf2 := hide (fire_any fd.tm (by omega) n)
            clear fd hd3 hf p3
            go_wp2_with fail
            refine hf2.out.mono ?_
            rintro e w4 ⟨v4, D4, F4, M4, fired, rfl, fd, hd4⟩
            have hne : 0 < fired.length := by
              rcases Nat.eq_zero_or_pos fired.length with e | e
              · have ef : fired = [] := List.eq_nil_of_length_eq_zero e
                subst ef
                obtain ⟨y, hy1, hy2⟩ := hmem.out
                have hp : D4.Perm D3 := by have := fd.perm; simpa using this
                have := hd4 y (hp.symm.subset (HP3.out.symm.subset hy1))
                omega
              · exact e
            have hl4 : fired.length + D4.length = D3.length := by have := fd.perm.length_eq; simpa using this
            obtain ⟨a4, c4, hv4, _⟩ := owns_shape fd.row
            subst hv4
            have J2 : Hid (NInv2 w1 w.heap.size (fun k => k = w.heap.size) (k + 1) w4) := hide ⟨⟨turns, S, D4, F4, M4, fd.tm, t1, by omega, ((HK.out.trans (Kept.cl HC2.out)).trans HFD.out.kept).trans fd.kept⟩⟩
            have hz : ((fired.length : Int) == 0) = false := beq_eq_false_iff_ne.2 (by omega)
            have hk2 : k + 1 ≤ 64 := by omega
            clear fd hd4 hf2 HFD HP3 HT HK hmem hfst
            go_wp2_with fail
            go_roundw
            case rel => exact ⟨k + 1, hk2, by go_num, J2⟩
            case measure => simp [intOf]; omega
  rcases w0 with ⟨rfl, rfl, rfl, rfl⟩ | ⟨x, rfl, hl, hm, hz, hcell, hwz⟩
  · exact key (fun j hj => by omega) (by unfold maxLen; omega)
  · refine key (fun j hj => ?_) (by omega)
    obtain ⟨b, off, spot⟩ := x
    have h1 := hcell j (by omega)
    have hc := hcell 0 (by omega)
    have hspot : spot = none := by simpa [Addr.add] using World.cell?_spot hc
    subst hspot
    exact ⟨b, off, rfl, by rw [← addr_add]; exact h1⟩

set_option maxRecDepth 100000 in
theorem lifted (os : Os) (started : os.Started) (H : Type) (enc : TypeId × Value → H) :
    ReturnsInHanded {} Try.checked os 7 .any (Rows.timersNextSpec.pre6 enc Try.prog Try.f7 Rows.timersNextRow.domain false) (Rows.timersNextSpec.post enc Try.prog Try.f7 false true false false) := by
  refine returnsInHanded_of_change (C := Try.checked) own started (by kernel_rfl) Try.func7
    (ChangeSpec.witness6 (enc := enc) (C := Try.checked) false ⟨#[], #[.slice none 0 0], []⟩ 8 (by kernel_rfl) (by kernel_rfl) (by kernel_rfl) (by kernel_rfl)) ?_
  intro W base args ds gs before hval0 hW hcnd _
  have hval : ∀ (j : Nat) t v, Try.f7.params[j]? = some t → args[j]? = some v → Value.okWide Try.prog W .any base t v := hval0
  have hW' := hW
  obtain ⟨p, q, hA0, hV, rfl, hfz, hnd⟩ := hW
  have hA : DataW.TrodAll enc Try.prog W 0 (fun _ => true) true Try.f7.params.toList args.toList ds p := hA0
  rw [Try.params7] at hA hval
  obtain ⟨v0, vs0, d0, ds0, p0, q0, hargs, rfl, rfl, h0, r0⟩ := trodAll_cons hA
  obtain ⟨rfl, rfl, rfl⟩ := trodAll_nil r0
  obtain rfl : args = #[v0] := by cases args; simp_all
  obtain ⟨rfl, rfl⟩ := trodVars_none hV
  obtain ⟨a0, len0, cap0, rfl⟩ := okWide_slice Try.underlying31 (hval 0 31 v0 rfl rfl)
  have k0 := h0
  have lt0 : ∀ x ∈ p0, x.block < W.heap.size := by obtain ⟨m, hm⟩ := k0; exact DataW.trod_lt m _ _ _ hm
  obtain ⟨z0, w0⟩ : ∃ zs, IsRow .i64 W a0 len0 cap0 zs := by
    obtain ⟨fuel, hf⟩ := h0
    rcases open_ints Try.underlying31 Try.underlying3 (by kernel_rfl) hf with ⟨hcs, _⟩ | ⟨x, l, c, zs, hcs, _, hl, hm, hz, _, hcell, hwz⟩
    · simp [Value.cells] at hcs
      obtain ⟨rfl, rfl, rfl⟩ := hcs
      exact ⟨[], .inl ⟨rfl, rfl, rfl, rfl⟩⟩
    · simp [Value.cells] at hcs
      obtain ⟨rfl, rfl, rfl⟩ := hcs
      exact ⟨zs, .inr ⟨_, rfl, hl, hm, by simpa using hz, hcell, hwz⟩⟩
  clear hA0 hval0
  refine (walk a0 len0 cap0 z0 W w0).mono fun e W' ⟨he, bel⟩ => ?_
  subst he
  exact ⟨_, rfl, _, _, _, [], _, [], hW', trodAll_mk1 (shut_bool Try.underlying4 _), (trodAll_cons_mk (Below.trod laidOut (by kernel_rfl) (of_decide_eq_true (by kernel_rfl)) k0 bel lt0) trodAll_mk0), rfl, bel.frame _, fun h => by cases h⟩

theorem over : Rows.timersNextRow.holds Try.pinned (OpenSpec.ofChange Rows.timersNextSpec) :=
  OpenClaim.holds_of_wide 7 Try.f7 rfl rfl rfl rfl rfl rfl rfl ⟨rfl, rfl, rfl, rfl, rfl⟩ rfl rfl rfl rfl rfl (by kernel_rfl) Try.func7 (by kernel_rfl)
    (of_decide_eq_true (by kernel_rfl)) (by unfold Func.isWrapper; first | (rw [if_pos (by decide +kernel)]; kernel_rfl) | (rw [if_neg (by decide +kernel)]; exact ⟨rfl, rfl⟩))
    (fun os started H enc _ => lifted os started H enc)

theorem proved : Rows.TimersNextSaid := over
end Go.Proofs.Ytbmhhkpehilioaa.timersNext
namespace Go.Proofs.Ytbmhhkpehilioaa
theorem timersNext_holds : Rows.TimersNextSaid := timersNext.proved
#print axioms timersNext_holds
end Go.Proofs.Ytbmhhkpehilioaa
