/- TimersOrder holds for every row of numbers and every moment: timers fire by their moments, at one moment as they were set. -/
import Derived.Test.YtbmhhkpehilioaaRows
import Derived.Test.YtbmhhkpehilioaaSays
import Derived.WalkKit
import Derived.ProofKit
import Derived.OpenShut
import Derived.ShutString
import Derived.ChangeOld
import Derived.Below
namespace Go.Proofs.Ytbmhhkpehilioaa.timersOrder
open Go.ChangeShapes Go.WideShapes Go.ChangeAt Go.RowKit
open Go.ChangeMaps (open_string shut_string)
set_option linter.unusedVariables false

theorem own : ownKnob Try.prog.godebug = none := by kernel_rfl
theorem laidOut : laidOutB Try.prog = true := by kernel_rfl

def IsRow (k : IntKind) (w : World) (a : Option Addr) (len cap : Nat) (zs : List Int) : Prop :=
  (a = none ∧ len = 0 ∧ cap = 0 ∧ zs = []) ∨
  ∃ x, a = some x ∧ len ≤ cap ∧ cap ≤ maxLen ∧ zs.length = cap ∧ (∀ i, i < zs.length → w.cell? (x.add i) = some (.int k (zs.getD i 0))) ∧ ∀ n ∈ zs, (Lit.int k n).wf = true

theorem addr_add (b off i : Nat) : (⟨b, off, none⟩ : Addr).add i = ⟨b, off + i, none⟩ := by
  unfold Addr.add
  by_cases h : i = 0
  · subst h; rfl
  · simp [h]
theorem moment_any (w : World) (t : Int) : Calls Try.prog 24 #[.int .i64 t] w fun e w' => e = .returned (.bool (decide (0 ≤ t ∧ t ≤ 4611686018427387904))) ∧ w = w' := by
  by_cases h0 : 0 ≤ t <;> by_cases h1 : t ≤ 4611686018427387904
  all_goals
    go_enter Try.func24, Try.ntmps24
    go_wp2
    go_ret
    exact ⟨ret_bool (by simp [h0, h1]), rfl⟩
theorem hs_at {wr : World} {bs : Nat} {old : Value} {hs : List Int} (h : wr.ownsRow bs 3 1 old hs.length (hs.map fun x => Value.int .i64 x)) : ∃ a c, old = .slice a hs.length c ∧ hs.length ≤ c ∧ ∀ k, k < hs.length → ∃ g, a = some ⟨g, 0, none⟩ ∧ wr.cell? ⟨g, k, none⟩ = some (.int .i64 (hs.getD k 0)) := by
  obtain ⟨a, c, rfl, hc, hcell⟩ := SlI.row h
  refine ⟨a, c, rfl, hc, fun k hk => ?_⟩
  rcases h.2 with ⟨e, _⟩ | ⟨g, cap, cur, e, _⟩
  · simp only [Value.slice.injEq] at e
    omega
  · simp only [Value.slice.injEq] at e
    obtain ⟨rfl, _, _⟩ := e
    obtain ⟨b, off, e, hx⟩ := hcell k hk
    simp only [Option.some.injEq, Addr.mk.injEq] at e
    obtain ⟨rfl, rfl, _⟩ := e
    rw [Nat.zero_add] at hx
    exact ⟨g, rfl, hx⟩
/-- The slots hold the moments of st, one behind another, each with its place as key. -/
structure Of (S : List Slot) (st : List Int) : Prop where
  len : S.length = st.length
  all : ∀ k, k < st.length → sg S k = ⟨st.getD k 0, (k : Int), (k : Int), 1⟩
theorem Of.put {S : List Slot} {st : List Int} (h : Of S st) (x : Int) : Of ((S ++ [z0]).set S.length ⟨x, (st.length : Int), (st.length : Int), (sg (S ++ [z0]) S.length).gen + 1⟩) (st ++ [x]) := by
  have hl := h.len
  refine ⟨by simp [hl], fun k hk => ?_⟩
  rw [sg_set _ _ _ _ (by simp)]
  by_cases e : k = S.length
  · rw [if_pos e, sg_last, e, hl]
    simp [List.getD, z0]
  · have hk2 : k < st.length := by simp at hk; omega
    rw [if_neg e, sg_app S z0 k (by omega), h.all k hk2]
    simp [List.getD, List.getElem?_append_left hk2]
structure OInv (w1 : World) (base : Nat) (M0 : Nat → Prop) (u : Value) (wr : World) (st : List Int) : Prop where
  ex : ∃ S D M, Tm wr base base 4096 (st.length : Int) S D [] M ∧ Kept w1 wr M0 M ∧ (∀ g, u.ownBlock = some g → ¬ M g) ∧ (∀ k, M k → k < wr.heap.size) ∧ Of S st
  len : st.length ≤ 4096
  row : wr.ownsRow w1.heap.size 3 1 u st.length (st.map fun x => Value.int .i64 x)
def cnt (st : List Int) (now : Int) (j : Nat) : Nat := ((List.range j).filter (fun k => decide (st.getD k 0 ≤ now))).length
theorem cnt_le (st : List Int) (now : Int) (j : Nat) : cnt st now j ≤ j := by
  have := List.length_filter_le (fun k => decide (st.getD k 0 ≤ now)) (List.range j)
  simpa [cnt] using this
theorem cnt_yes (st : List Int) (now : Int) (j : Nat) (h : st.getD j 0 ≤ now) : cnt st now (j + 1) = cnt st now j + 1 := by
  unfold cnt
  rw [List.range_succ, List.filter_append]
  simp only [List.filter_cons, decide_eq_true h, List.filter_nil, if_true, List.length_append, List.length_singleton]
theorem cnt_no (st : List Int) (now : Int) (j : Nat) (h : ¬ st.getD j 0 ≤ now) : cnt st now (j + 1) = cnt st now j := by
  unfold cnt
  rw [List.range_succ, List.filter_append]
  simp only [List.filter_cons, decide_eq_false h, List.filter_nil, Bool.false_eq_true, if_false, List.append_nil]
theorem cnt_fired {S : List Slot} {st : List Int} {now : Int} {D D' fired : List Nat} (ho : Of S st) (hD : D.Perm (List.range st.length)) (hp : (fired ++ D').Perm D) (h1 : ∀ x, x ∈ fired → (sg S x).when ≤ now) (h2 : ∀ y, y ∈ D' → now < (sg S y).when) : fired.length = cnt st now st.length := by
  have hpr := hp.trans hD
  have hf := (hpr.filter (fun k => decide (st.getD k 0 ≤ now))).length_eq
  have mem : ∀ x, x ∈ fired ++ D' → (sg S x).when = st.getD x 0 := fun x hx => by
    have := hpr.subset hx
    rw [ho.all x (by simpa using this)]
  rw [List.filter_append] at hf
  have e1 : fired.filter (fun k => decide (st.getD k 0 ≤ now)) = fired := List.filter_eq_self.2 (fun x hx => by
    have a := h1 x hx
    rw [mem x (List.mem_append.2 (.inl hx))] at a
    exact decide_eq_true a)
  have e2 : D'.filter (fun k => decide (st.getD k 0 ≤ now)) = [] := List.filter_eq_nil_iff.2 (fun y hy => by
    have a := h2 y hy
    rw [mem y (List.mem_append.2 (.inr hy))] at a
    rw [decide_eq_false (by omega)]
    exact Bool.false_ne_true)
  rw [e1, e2, List.append_nil] at hf
  exact hf

set_option maxHeartbeats 4000000 in
set_option maxRecDepth 100000 in
theorem walk (a0 : Option Addr) (len0 cap0 : Nat) (z0 : List Int) (a1 : Int) (w : World) (w0 : IsRow .i64 w a0 len0 cap0 z0) (w1 : (Lit.int .i64 a1).wf = true) :
    Calls Try.prog 4 #[.slice a0 len0 cap0, .int .i64 a1] w fun e w' => e = .returned (.bool true) ∧ Below w.heap.size w w' := by
  have key : ∀ (cellAt : ∀ j, j < len0 → ∃ b off, a0 = some ⟨b, off, none⟩ ∧ w.cell? ⟨b, off + j, none⟩ = some (.int .i64 (z0.getD j 0))) (hmx : len0 ≤ maxLen), Calls Try.prog 4 #[.slice a0 len0 cap0, .int .i64 a1] w fun e w' => e = .returned (.bool true) ∧ Below w.heap.size w w' := by
    intro cellAt hmx
    have hmx2 : len0 ≤ 9223372036854775807 := hmx
    have CA := hide cellAt
    clear cellAt hmx w0
    go_enter Try.func4, Try.ntmps4
    go_wp2_with fail
    refine (new_any w 4096 (by omega) (by omega)).mono ?_
    rintro e wa ⟨rfl, T1, C1, z1⟩
    have HC1 := hide C1
    have hz1 : w.heap.size < wa.heap.size := by omega
    have I0 : Hid (∃ st, OInv wa w.heap.size (fun k => k = w.heap.size) (.slice none 0 0) wa st) := hide ⟨[], ⟨⟨[], [], _, T1, Kept.cl (Cl.refl _), fun g hg => by simp [Value.ownBlock] at hg, fun k hk => by omega, ⟨rfl, fun k hk => by simp at hk⟩⟩, by simp, ⟨rfl, .inl ⟨rfl, rfl⟩⟩⟩⟩
    clear T1 C1 z1
    go_wp2_with fail
    go_loopw [7, 30] (fun u v wr => ∃ j : Nat, j ≤ len0 ∧ v = .int .i64 (j : Int) ∧ Hid (∃ st, OInv wa w.heap.size (fun k => k = w.heap.size) u wr st)) (fun _ v _ => len0 - (intOf v).toNat)
    case atStart => exact ⟨0, Nat.zero_le _, rfl, I0⟩
    case round =>
      clear I0
      obtain ⟨j, hj, rfl, HI⟩ := hrel
      obtain ⟨st, HS⟩ := HI.out
      obtain ⟨S, DD, M, T, K, ap, lt, ol⟩ := HS.ex
      have hlen := HS.len
      have hrow := HS.row
      obtain ⟨ao, co, hold, hco, hoc⟩ := hs_at hrow
      subst hold
      have hDl : DD.length = st.length := by have := T.inv.lens; have := ol.len; simp at *; omega
      by_cases hlt : j < len0
      · obtain ⟨b, off, rfl, c0⟩ := CA.out j hlt
        have hbl := World.block_lt_of_cell? w _ c0
        have f1 : Fr (fun k => k = w.heap.size) w wr := (HC1.out.out.mono (T := fun k => k = w.heap.size) (fun _ _ x => x.elim)).trans K.fr (fun _ _ x => x)
        have c1 : wr.cell? ⟨b, off + j, none⟩ = some (.int .i64 (z0.getD j 0)) := (World.cell?_of_block (f1.block b hbl (by show b ≠ w.heap.size; exact Nat.ne_of_lt hbl))).trans c0
        obtain ⟨x, Hx⟩ : ∃ x, Hid (z0.getD j 0 = x) := ⟨_, hide rfl⟩
        rw [Hx.out] at c1
        have hmo := hide (moment_any wr x)
        by_cases hm : 0 ≤ x ∧ x ≤ 4611686018427387904
        · rw [decide_eq_true hm] at hmo
          by_cases h4 : st.length < 4096
          · have h4i : (st.length : Int) < 4096 := by omega
            have hs1 := hide (set_any T (by omega) x (st.length : Int) hm (by omega))
            have HK := hide K
            have HAp := hide ap
            have HOl := hide ol
            have HRow := hide hrow
            clear T K c0 HI CA hm ap lt ol HS hrow hoc f1
            go_wp2_with fail
            refine hmo.out.mono ?_
            rintro e wb ⟨rfl, rfl⟩
            go_wp2_with fail
            refine hs1.out.mono ?_
            rintro e w2 ⟨i, S1, D2, F2, M2, rfl, pl, T2, p2, K2⟩
            cases pl with
            | old h0 _ => simp at h0
            | fresh _ =>
            have hol2 := hide (HOl.out.put x)
            have blk : ∀ g, (Value.slice ao st.length co).ownBlock = some g → wa.heap.size ≤ g ∧ g < wr.heap.size := fun g hg => owns_block HRow.out hg
            have sz2 : wr.heap.size ≤ w2.heap.size := K2.fr.size
            have hrow2 := owns_frame HRow.out K2.fr HAp.out
            have nM2 : ∀ g, (Value.slice ao st.length co).ownBlock = some g → ¬ M2 g := fun g hg hm => by
              rcases K2.more g hm with e | e
              · exact HAp.out g hg e
              · have := (blk g hg).2; omega
            have fin : ∀ (v' : Value) (w4 : World), w4.ownsRow wa.heap.size 3 1 v' (st.length + 1) ((st.map fun x => Value.int .i64 x) ++ [.int .i64 x]) → Fr (fun k => some k = (Value.slice ao st.length co).ownBlock) w2 w4 → (v'.ownBlock = (Value.slice ao st.length co).ownBlock ∨ ∃ g, v'.ownBlock = some g ∧ w2.heap.size ≤ g) → ∃ st', OInv wa w.heap.size (fun k => k = w.heap.size) v' w4 st' := by
              intro v' w4 o4 f4 l4
              have Tb := T2.bound
              have T4 := Tb.frame f4 (fun k _ hm e => nM2 k e.symm hm.1)
              refine ⟨st ++ [x], ⟨⟨_, D2, (fun k => M2 k ∧ k < w2.heap.size), ?_, ?_, ?_, fun k hk => Nat.lt_of_lt_of_le hk.2 f4.size, hol2.out⟩, by simp; omega, by simpa using o4⟩⟩
              · have e1 : (((st ++ [x]).length : Nat) : Int) = (st.length : Int) + 1 := by simp
                rw [e1]
                exact T4
              · refine ((HK.out.trans K2).pass f4 (fun k hk e => ?_)).less (fun k hk => hk.1)
                have := (blk k e.symm).1
                omega
              · intro g hg hm
                rcases l4 with e | ⟨g', e, hg'⟩
                · exact nM2 g (e ▸ hg) hm.1
                · rw [hg] at e
                  simp only [Option.some.injEq] at e
                  have := hm.2
                  omega
            have FIN := hide fin
            have HR2 := hide hrow2
            have hle2 : wa.heap.size ≤ w2.heap.size := Nat.le_trans HK.out.fr.size sz2
            clear fin T2 K2 p2 hrow2 blk nM2 hs1 hmo
            go_wp2_with (at_builtin; apply Hid.out)
            unfold Hid
            refine wpList_append_int rfl _ _ rfl w2 wa.heap.size (.slice ao st.length co) st.length _ x rfl rfl HR2.out (by omega) hle2 ?_
            intro v' w4 o4 f4 l4
            have FI := hide (FIN.out v' w4 o4 f4 l4)
            clear o4 f4 l4 FIN HR2
            go_wp2_with fail
            go_roundw
            case rel => exact ⟨j + 1, by omega, by go_num, FI⟩
            case measure => simp [intOf]; omega
          · have h4i : ¬ (st.length : Int) < 4096 := by omega
            have FI : Hid (∃ st', OInv wa w.heap.size (fun k => k = w.heap.size) (.slice ao st.length co) wr st') := hide ⟨st, HS⟩
            clear T K c0 HI CA hm ap lt ol HS hrow hoc f1
            go_wp2_with fail
            refine hmo.out.mono ?_
            rintro e wb ⟨rfl, rfl⟩
            go_wp2_with fail
            go_roundw
            case rel => exact ⟨j + 1, by omega, by go_num, FI⟩
            case measure => simp [intOf]; omega
        · rw [decide_eq_false hm] at hmo
          have FI : Hid (∃ st', OInv wa w.heap.size (fun k => k = w.heap.size) (.slice ao st.length co) wr st') := hide ⟨st, HS⟩
          clear T K c0 HI CA hm ap lt ol HS hrow hoc f1
          go_wp2_with fail
          refine hmo.out.mono ?_
          rintro e wb ⟨rfl, rfl⟩
          go_wp2_with fail
          go_roundw
          case rel => exact ⟨j + 1, by omega, by go_num, FI⟩
          case measure => simp [intOf]; omega
      · have hfi := hide (fire_any T (by omega) a1)
        have HK := hide K
        have HAp := hide ap
        have HOl := hide ol
        have HRow := hide hrow
        have hDp : Hid (DD.Perm (List.range st.length)) := hide (by have := T.inv.perm; rw [List.append_nil, ol.len] at this; exact this)
        clear T K HI CA ap lt ol HS hrow hoc
        go_wp2_with fail
        refine hfi.out.mono ?_
        rintro e wf ⟨vf, Df, Ff, Mf, fired, rfl, fd, hdf⟩
        have hcf := hide (cnt_fired HOl.out hDp.out fd.perm fd.due hdf)
        have hfl : fired.length + Df.length = st.length := by have := fd.perm.length_eq; simp at this; omega
        have hrowf := owns_frame HRow.out fd.kept.fr HAp.out
        have hkeys : keys (S := S) fired = (fired.map fun i : Nat => (i : Int)).map fun x => Value.int .i64 x := by
          unfold keys
          rw [List.map_map]
          apply List.map_congr_left
          intro x hx
          have hx2 := hDp.out.subset (fd.perm.subset (List.mem_append.2 (.inl hx)))
          simp only [Function.comp]
          rw [HOl.out.all x (by simpa using hx2)]
        have hrv := fd.row
        rw [hkeys] at hrv
        have hlf : (fired.map fun i : Nat => (i : Int)).length = fired.length := by simp
        rw [← hlf] at hrv
        obtain ⟨av, cv, hvv, hcv, hcellv⟩ := hs_at hrv
        rw [hlf] at hvv hcv hcellv
        subst hvv
        obtain ⟨ao2, co2, hold2, hco2, hoc2⟩ := hs_at hrowf
        simp only [Value.slice.injEq] at hold2
        obtain ⟨rfl, -, rfl⟩ := hold2
        obtain ⟨vs3, vd3, vf3, ho3, _⟩ := fd.tm.obj
        have hln := hide (len_any ho3)
        have hsort : Hid (∀ q, 0 < q → q < fired.length → rk S (gt fired (q - 1)) < rk S (gt fired q)) := hide (fun q h0 hq => by
          have := List.pairwise_iff_getElem.1 fd.sorted (q - 1) q (by omega) hq (by omega)
          rw [gt_eq fired (q - 1) (by omega), gt_eq fired q hq]
          exact this)
        have hlow : Hid (∀ q, q < fired.length → gt fired q < st.length ∧ (sg S (gt fired q)).when ≤ a1) := hide (fun q hq => ⟨by
          have := hDp.out.subset (fd.perm.subset (List.mem_append.2 (.inl (gt_mem fired q hq))))
          simpa using this, fd.due _ (gt_mem fired q hq)⟩)
        have HKf := hide (HK.out.trans fd.kept)
        have HV := hide hcellv
        have HO := hide hoc2
        have hcs := cnt_le st a1 st.length
        clear fd hdf hfi hrowf hrv hcellv hoc2 ho3 hkeys hDp HRow HAp HK
        go_wp2_with fail
        go_loopw [13, 61] (fun d v ws => wf = ws ∧ ∃ k : Nat, k ≤ st.length ∧ v = .int .i64 (k : Int) ∧ d = .int .i64 ((cnt st a1 k : Nat) : Int)) (fun _ v _ => st.length - (intOf v).toNat)
        case atStart => exact ⟨rfl, 0, Nat.zero_le _, rfl, rfl⟩
        case round =>
          obtain ⟨rfl, k, hk, rfl, rfl⟩ := hrel
          have hck := cnt_le st a1 k
          by_cases hkl : k < st.length
          · obtain ⟨g, rfl, ck⟩ := HO.out k hkl
            by_cases hle : st.getD k 0 ≤ a1
            · have hcy := hide (cnt_yes st a1 k hle)
              obtain ⟨y, Hy⟩ : ∃ y, Hid (st.getD k 0 = y) := ⟨_, hide rfl⟩
              rw [Hy.out] at ck hle
              go_wp2_with fail
              go_roundw
              case rel => exact ⟨trivial, k + 1, by omega, by go_num, by rw [hcy.out]; go_num⟩
              case measure => simp [intOf]; omega
            · have hcy := hide (cnt_no st a1 k hle)
              obtain ⟨y, Hy⟩ : ∃ y, Hid (st.getD k 0 = y) := ⟨_, hide rfl⟩
              rw [Hy.out] at ck hle
              go_wp2_with fail
              go_roundw
              case rel => exact ⟨trivial, k + 1, by omega, by go_num, by rw [hcy.out]⟩
              case measure => simp [intOf]; omega
          · have ek : k = st.length := by omega
            subst ek
            rw [← hcf.out]
            have hDf : (st.length : Int) - (fired.length : Int) = (Df.length : Int) := by omega
            have hfs : fired.length ≤ st.length := by omega
            go_wp2_with fail
            refine hln.out.mono ?_
            rintro e wg ⟨rfl, rfl⟩
            go_wp2_with fail
            go_loopw [86] (fun v ws => ∃ q : Nat, q ≤ fired.length ∧ v = .int .i64 (q : Int) ∧ Hid (Cl wf ws)) (fun v _ => fired.length - (intOf v).toNat)
            case atStart => exact ⟨0, Nat.zero_le _, rfl, hide (Cl.refl _)⟩
            case round =>
              obtain ⟨q, hq, rfl, HCl⟩ := hrel
              by_cases hql : q < fired.length
              · obtain ⟨gv, rfl, cq⟩ := HV.out q hql
                have hl1 := hlow.out q hql
                obtain ⟨go, rfl, cs⟩ := HO.out (gt fired q) hl1.1
                have eqv : (fired.map fun i : Nat => (i : Int)).getD q 0 = (gt fired q : Int) := by simp [List.getD, gt, hql]
                rw [eqv] at cq
                have eall := HOl.out.all (gt fired q) hl1.1
                have hb2 := hl1.2
                rw [eall] at hb2
                dsimp only at hb2
                have cq' := HCl.out.cell cq
                have cs' := HCl.out.cell cs
                by_cases hq0 : q = 0
                · subst hq0
                  have hi1 := hl1.1
                  obtain ⟨f, Hf⟩ : ∃ f, Hid (gt fired 0 = f) := ⟨_, hide rfl⟩
                  rw [Hf.out] at cq' cs' hb2 hi1
                  obtain ⟨s, Hs'⟩ : ∃ s, Hid (st.getD f 0 = s) := ⟨_, hide rfl⟩
                  rw [Hs'.out] at cs' hb2
                  clear cq cs eqv eall hl1
                  go_wp2_with fail
                  go_quiet (fail)
                  go_wp2_with fail
                  go_roundw
                  case rel => exact ⟨1, by omega, by go_num, hide (HCl.out.trans (Fr.drewN (fun _ => False) _ _))⟩
                  case measure => simp [intOf]; omega
                · obtain ⟨q1, hq1⟩ : ∃ q1, q = q1 + 1 := ⟨q - 1, by omega⟩
                  subst hq1
                  obtain ⟨gv2, egv, cp⟩ := HV.out q1 (by omega)
                  simp only [Option.some.injEq, Addr.mk.injEq, and_true] at egv
                  subst egv
                  have hl2 := hlow.out q1 (by omega)
                  obtain ⟨go2, ego, ct⟩ := HO.out (gt fired q1) hl2.1
                  simp only [Option.some.injEq, Addr.mk.injEq, and_true] at ego
                  subst ego
                  have eqv2 : (fired.map fun i : Nat => (i : Int)).getD q1 0 = (gt fired q1 : Int) := by simp [List.getD, gt, show q1 < fired.length by omega]
                  rw [eqv2] at cp
                  have eall2 := HOl.out.all (gt fired q1) hl2.1
                  have hrk := hsort.out (q1 + 1) (by omega) hql
                  rw [Nat.add_sub_cancel] at hrk
                  unfold rk at hrk
                  rw [eall, eall2] at hrk
                  dsimp only at hrk
                  have cp' := HCl.out.cell cp
                  have ct' := HCl.out.cell ct
                  have hi1 := hl1.1
                  have hi2 := hl2.1
                  obtain ⟨f, Hf⟩ : ∃ f, Hid (gt fired (q1 + 1) = f) := ⟨_, hide rfl⟩
                  obtain ⟨p, Hp'⟩ : ∃ p, Hid (gt fired q1 = p) := ⟨_, hide rfl⟩
                  rw [Hf.out] at cq' cs' hb2 hi1 hrk
                  rw [Hp'.out] at cp' ct' hi2 hrk
                  obtain ⟨s, Hs'⟩ : ∃ s, Hid (st.getD f 0 = s) := ⟨_, hide rfl⟩
                  obtain ⟨t, Ht'⟩ : ∃ t, Hid (st.getD p 0 = t) := ⟨_, hide rfl⟩
                  rw [Hs'.out] at cs' hb2 hrk
                  rw [Ht'.out] at ct' hrk
                  have hqp : (0 : Int) < ((q1 : Int) + 1) := by omega
                  have hqq : ((q1 : Int) + 1) - 1 = (q1 : Int) := by omega
                  have g1 : decide (s < t) = false := decide_eq_false (by omega)
                  clear cq cs eqv eall hl1 cp ct eqv2 eall2 hl2
                  by_cases hst : t = s
                  · subst hst
                    have hpf : (p : Int) < (f : Int) := by omega
                    have g2 : decide ((f : Int) ≤ (p : Int)) = false := decide_eq_false (by omega)
                    have g3 : decide (f ≤ p) = false := decide_eq_false (by omega)
                    clear hrk
                    go_wp2_with fail
                    go_quiet (fail)
                    go_wp2_with fail
                    go_roundw
                    case rel => exact ⟨q1 + 1 + 1, by omega, by go_num, hide (HCl.out.trans (Fr.drewN (fun _ => False) _ _))⟩
                    case measure => simp [intOf]; omega
                  · have hts : t < s := by omega
                    have g2 : (t == s) = false := beq_eq_false_iff_ne.2 hst
                    clear hrk
                    go_wp2_with fail
                    go_quiet (fail)
                    go_wp2_with fail
                    go_roundw
                    case rel => exact ⟨q1 + 1 + 1, by omega, by go_num, hide (HCl.out.trans (Fr.drewN (fun _ => False) _ _))⟩
                    case measure => simp [intOf]; omega
              · clear HV HO hsort hlow
                go_wp2_with fail
                refine (speaks_any _).mono ?_
                rintro e wz ⟨rfl, hg⟩
                have HG := hide hg
                clear hg
                go_wp2_with fail
                go_ret
                exact ⟨rfl, ((HC1.out.out.trans HKf.out.fr (fun i hi hm => by omega)).trans (HCl.out.trans HG.out).out (fun _ _ x => x)).below (Nat.le_refl _) (fun _ _ x => x)⟩
  rcases w0 with ⟨rfl, rfl, rfl, rfl⟩ | ⟨x, rfl, hl, hm, hz, hcell, hwz⟩
  · exact key (fun j hj => by omega) (by unfold maxLen; omega)
  · refine key (fun j hj => ?_) (by omega)
    obtain ⟨b, off, spot⟩ := x
    have h1 := hcell j (by omega)
    have hc := hcell 0 (by omega)
    have hspot : spot = none := by simpa [Addr.add] using World.cell?_spot hc
    subst hspot
    exact ⟨b, off, rfl, by rw [← addr_add]; exact h1⟩

set_option maxRecDepth 100000 in
theorem lifted (os : Os) (started : os.Started) (H : Type) (enc : TypeId × Value → H) :
    ReturnsInHanded {} Try.checked os 4 .any (Rows.timersOrderSpec.pre6 enc Try.prog Try.f4 Rows.timersOrderRow.domain false) (Rows.timersOrderSpec.post enc Try.prog Try.f4 false true false false) := by
  refine returnsInHanded_of_change (C := Try.checked) own started (by kernel_rfl) Try.func4
    (ChangeSpec.witness6 (enc := enc) (C := Try.checked) false ⟨#[], #[.slice none 0 0, .int .i64 0], []⟩ 8 (by kernel_rfl) (by kernel_rfl) (by kernel_rfl) (by kernel_rfl)) ?_
  intro W base args ds gs before hval0 hW hcnd _
  have hval : ∀ (j : Nat) t v, Try.f4.params[j]? = some t → args[j]? = some v → Value.okWide Try.prog W .any base t v := hval0
  have hW' := hW
  obtain ⟨p, q, hA0, hV, rfl, hfz, hnd⟩ := hW
  have hA : DataW.TrodAll enc Try.prog W 0 (fun _ => true) true Try.f4.params.toList args.toList ds p := hA0
  rw [Try.params4] at hA hval
  obtain ⟨v0, vs0, d0, ds0, p0, q0, hargs, rfl, rfl, h0, r0⟩ := trodAll_cons hA
  obtain ⟨v1, vs1, d1, ds1, p1, q1, rfl, rfl, rfl, h1, r1⟩ := trodAll_cons r0
  obtain ⟨rfl, rfl, rfl⟩ := trodAll_nil r1
  obtain rfl : args = #[v0, v1] := by cases args; simp_all
  obtain ⟨rfl, rfl⟩ := trodVars_none hV
  obtain ⟨a0, len0, cap0, rfl⟩ := okWide_slice Try.underlying31 (hval 0 31 v0 rfl rfl)
  have k0 := h0
  have lt0 : ∀ x ∈ p0, x.block < W.heap.size := by obtain ⟨m, hm⟩ := k0; exact DataW.trod_lt m _ _ _ hm
  obtain ⟨z0, w0⟩ : ∃ zs, IsRow .i64 W a0 len0 cap0 zs := by
    obtain ⟨fuel, hf⟩ := h0
    rcases open_ints Try.underlying31 Try.underlying3 (by kernel_rfl) hf with ⟨hcs, _⟩ | ⟨x, l, c, zs, hcs, _, hl, hm, hz, _, hcell, hwz⟩
    · simp [Value.cells] at hcs
      obtain ⟨rfl, rfl, rfl⟩ := hcs
      exact ⟨[], .inl ⟨rfl, rfl, rfl, rfl⟩⟩
    · simp [Value.cells] at hcs
      obtain ⟨rfl, rfl, rfl⟩ := hcs
      exact ⟨zs, .inr ⟨_, rfl, hl, hm, by simpa using hz, hcell, hwz⟩⟩
  obtain ⟨a1, rfl, rfl, rfl, w1⟩ := open_int Try.underlying3 (hval 1 3 v1 rfl rfl) h1
  clear hA0 hval0
  refine (walk a0 len0 cap0 z0 a1 W w0 w1).mono fun e W' ⟨he, bel⟩ => ?_
  subst he
  exact ⟨_, rfl, _, _, _, [], _, [], hW', trodAll_mk1 (shut_bool Try.underlying4 _), (trodAll_cons_mk (Below.trod laidOut (by kernel_rfl) (of_decide_eq_true (by kernel_rfl)) k0 bel lt0) (trodAll_cons_mk (shut_int Try.underlying3 w1) trodAll_mk0)), rfl, bel.frame _, fun h => by cases h⟩

theorem over : Rows.timersOrderRow.holds Try.pinned (OpenSpec.ofChange Rows.timersOrderSpec) :=
  OpenClaim.holds_of_wide 4 Try.f4 rfl rfl rfl rfl rfl rfl rfl ⟨rfl, rfl, rfl, rfl, rfl⟩ rfl rfl rfl rfl rfl (by kernel_rfl) Try.func4 (by kernel_rfl)
    (of_decide_eq_true (by kernel_rfl)) (by unfold Func.isWrapper; first | (rw [if_pos (by decide +kernel)]; kernel_rfl) | (rw [if_neg (by decide +kernel)]; exact ⟨rfl, rfl⟩))
    (fun os started H enc _ => lifted os started H enc)

theorem proved : Rows.TimersOrderSaid := over
end Go.Proofs.Ytbmhhkpehilioaa.timersOrder
namespace Go.Proofs.Ytbmhhkpehilioaa
theorem timersOrder_holds : Rows.TimersOrderSaid := timersOrder.proved
#print axioms timersOrder_holds
end Go.Proofs.Ytbmhhkpehilioaa
