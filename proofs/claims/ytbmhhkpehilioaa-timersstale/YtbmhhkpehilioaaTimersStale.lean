/- TimersStale holds for every row of numbers and either way: an old handle cancels nothing. -/
import Derived.Test.YtbmhhkpehilioaaRows
import Derived.Test.YtbmhhkpehilioaaSays
import Derived.WalkKit
import Derived.ProofKit
import Derived.OpenShut
import Derived.ShutString
import Derived.ChangeOld
import Derived.Below
namespace Go.Proofs.Ytbmhhkpehilioaa.timersStale
open Go.ChangeShapes Go.WideShapes Go.ChangeAt Go.RowKit
open Go.ChangeMaps (open_string shut_string)
set_option linter.unusedVariables false

theorem own : ownKnob Try.prog.godebug = none := by kernel_rfl
theorem laidOut : laidOutB Try.prog = true := by kernel_rfl

def IsRow (k : IntKind) (w : World) (a : Option Addr) (len cap : Nat) (zs : List Int) : Prop :=
  (a = none ∧ len = 0 ∧ cap = 0 ∧ zs = []) ∨
  ∃ x, a = some x ∧ len ≤ cap ∧ cap ≤ maxLen ∧ zs.length = cap ∧ (∀ i, i < zs.length → w.cell? (x.add i) = some (.int k (zs.getD i 0))) ∧ ∀ n ∈ zs, (Lit.int k n).wf = true

theorem append_wide (W : World) (base : Nat) (ty : TypeId) (v : Value) (n : Nat) (xs : List Value) (y : Int) (hown : W.ownsRow base 3 1 v n xs) (hn : n < 17592186044416) (hbase : base ≤ W.heap.size) :
    ∃ v' W', (Builtin.append_ #[31, 31] ty #[v, .slice (some ⟨W.heap.size, 0, none⟩) 1 1]).run Try.prog (W.alloc (.cells #[.int .i64 y] 3)) = .ok v' W' ∧ W'.ownsRow base 3 1 v' (n + 1) (xs ++ [.int .i64 y]) ∧ Fr (fun k => some k = v.ownBlock) W W' ∧
      (v'.ownBlock = v.ownBlock ∨ ∃ g, v'.ownBlock = some g ∧ W.heap.size ≤ g) ∧ v'.ownBlock ≠ none := by
  obtain ⟨i, hi, hz, hs1, hb1⟩ := info3
  obtain ⟨v', W', hr, ho, hg, hnil, hloc⟩ := run_append_own_at (w := W.alloc (.cells #[.int .i64 y] 3)) base 31 ty 3 i (.int .i64 0) 1 8 Try.underlying31 hi hz hs1 hb1 rfl (by omega) v n xs (hown.alloc _) ⟨W.heap.size, 0, none⟩ 1 1 [.int .i64 y] rfl (one_cell W _) (by intro u hu; simp at hu; subst hu; rfl) (by unfold maxLen; omega) (by omega) (by simp; omega)
  refine ⟨v', W', hr, ho, ?_, ?_, ?_⟩
  · refine (Fr.alloc (fun k => some k = v.ownBlock) W (.cells #[.int .i64 y] 3)).trans (Fr.ofGrown hg) (fun _ _ x => x)
  · rcases hloc with h | h
    · exact .inl h
    · exact .inr ⟨_, h, by simp⟩
  · rcases ho.2 with ⟨_, h0⟩ | ⟨g, cap, cur, rfl, _⟩
    · omega
    · simp [Value.ownBlock]
theorem wpList_append_wide {ops : Array Oper} {rest : List Oper} {o : Oper} {a : Act} {Q : Exit → Act → World → Prop} (hgd : o.guard = none) (s x : Operand)
    (ho : o.op = .call { callee := .builtin .append, args := #[s, x], argTypes := #[31, 31] }) (W : World) (base : Nat) (v : Value) (n : Nat) (xs : List Value) (y : Int) (hs : a.eval s = v) (hx : a.eval x = .slice (some ⟨W.heap.size, 0, none⟩) 1 1)
    (hown : W.ownsRow base 3 1 v n xs) (hn : n < 17592186044416) (hbase : base ≤ W.heap.size)
    (h : ∀ v' W', W'.ownsRow base 3 1 v' (n + 1) (xs ++ [.int .i64 y]) → Fr (fun k => some k = v.ownBlock) W W' → (v'.ownBlock = v.ownBlock ∨ ∃ g, v'.ownBlock = some g ∧ W.heap.size ≤ g) → wpList Try.prog ops Q rest (a.put o.dst v') W') : wpList Try.prog ops Q (o :: rest) a (W.alloc (.cells #[.int .i64 y] 3)) := by
  refine wpList_plain hgd fun K hK => ?_
  obtain ⟨v', W', hr, h2, h3, h4, h5⟩ := append_wide W base o.type v n xs y hown hn hbase
  unfold Oper.wp execOp
  simp only [ho, resolve, invoke, builtin, Sem.run_bind, Sem.run_pure, Result.andThen_ok, List.map_toArray, List.map_cons, List.map_nil, hs, hx, hr]
  exact hK _ _ (h v' W' h2 h3 h4)
theorem addr_add (b off i : Nat) : (⟨b, off, none⟩ : Addr).add i = ⟨b, off + i, none⟩ := by
  unfold Addr.add
  by_cases h : i = 0
  · subst h; rfl
  · simp [h]
structure Olds (S : List Slot) (hs : List Int) : Prop where
  all : ∀ h, h ∈ hs → ∃ (i : Nat) (g : Int), i < S.length ∧ h = g * 4096 + i ∧ 1 ≤ g ∧ g ≤ (sg S i).gen
theorem Olds.ne {turns : Int} {S S1 : List Slot} {F F' : List Nat} {i : Nat} {hs : List Int} (ho : Olds S hs) (hI : Inv 8 turns S [] F) (pl : Place S F i S1 F') {h : Int} (hh : h ∈ hs) : h ≠ ((sg S1 i).gen + 1) * 4096 + i := by
  obtain ⟨h1, h2, h3, -⟩ := pl.lt hI
  have hl := hI.len
  obtain ⟨j, g, hj, rfl, g1, g2⟩ := ho.all h hh
  intro e
  have hS1 : S1.length ≤ 9 := by
    cases pl with
    | fresh _ => simp; omega
    | old _ _ => omega
  have eij : j = i := by omega
  subst eij
  rw [h3 j hj] at e
  omega
theorem Olds.put {turns time key : Int} {S S1 : List Slot} {F F' : List Nat} {i : Nat} {hs : List Int} (ho : Olds S hs) (hI : Inv 8 turns S [] F) (pl : Place S F i S1 F') : Olds (S1.set i ⟨time, key, turns, (sg S1 i).gen + 1⟩) (hs ++ [((sg S1 i).gen + 1) * 4096 + i]) := by
  obtain ⟨h1, h2, h3, -⟩ := pl.lt hI
  have hg0 : 0 ≤ (sg S1 i).gen := by
    cases pl with
    | fresh _ => rw [sg_last]; decide
    | old a b => have := hI.sl _ h1; omega
  refine ⟨fun h hh => ?_⟩
  rcases List.mem_append.1 hh with hh | hh
  · obtain ⟨j, g, hj, rfl, g1, g2⟩ := ho.all h hh
    refine ⟨j, g, by simp; omega, rfl, g1, ?_⟩
    rw [sg_set S1 i _ j h1]
    by_cases e : j = i
    · subst e
      rw [if_pos rfl]
      rw [← h3 j hj] at g2
      dsimp only
      omega
    · rw [if_neg e, h3 j hj]; exact g2
  · rw [List.mem_singleton] at hh
    subst hh
    refine ⟨i, (sg S1 i).gen + 1, by simp; omega, rfl, by omega, ?_⟩
    rw [sg_set S1 i _ i h1, if_pos rfl]
    exact Int.le_refl _
theorem Olds.small {turns : Int} {S : List Slot} {F : List Nat} {hs : List Int} (ho : Olds S hs) (hI : Inv 8 turns S [] F) (ht : turns ≤ 17592186044416) {h : Int} (hh : h ∈ hs) : 0 ≤ h ∧ h < 9223372036854775808 := by
  obtain ⟨j, g, hj, rfl, g1, g2⟩ := ho.all h hh
  have := hI.sl j hj
  have := hI.len
  omega
structure SInv (w1 : World) (base : Nat) (M0 : Nat → Prop) (j : Nat) (old : Value) (wr : World) (hs : List Int) : Prop where
  ex : ∃ turns S F M, Tm wr base base 8 turns S [] F M ∧ turns ≤ (j : Int) ∧ Kept w1 wr M0 M ∧ (∀ g, old.ownBlock = some g → ¬ M g) ∧ (∀ k, M k → k < wr.heap.size) ∧ Olds S hs
  len : hs.length ≤ j
  row : wr.ownsRow w1.heap.size 3 1 old hs.length (hs.map fun x => Value.int .i64 x)
theorem hs_at {wr : World} {bs : Nat} {old : Value} {hs : List Int} (h : wr.ownsRow bs 3 1 old hs.length (hs.map fun x => Value.int .i64 x)) : ∃ a c, old = .slice a hs.length c ∧ hs.length ≤ c ∧ ∀ k, k < hs.length → ∃ g, a = some ⟨g, 0, none⟩ ∧ wr.cell? ⟨g, k, none⟩ = some (.int .i64 (hs.getD k 0)) := by
  obtain ⟨a, c, rfl, hc, hcell⟩ := SlI.row h
  refine ⟨a, c, rfl, hc, fun k hk => ?_⟩
  rcases h.2 with ⟨e, _⟩ | ⟨g, cap, cur, e, _⟩
  · simp only [Value.slice.injEq] at e
    omega
  · simp only [Value.slice.injEq] at e
    obtain ⟨rfl, _, _⟩ := e
    obtain ⟨b, off, e, hx⟩ := hcell k hk
    simp only [Option.some.injEq, Addr.mk.injEq] at e
    obtain ⟨rfl, rfl, _⟩ := e
    rw [Nat.zero_add] at hx
    exact ⟨g, rfl, hx⟩

set_option maxHeartbeats 4000000 in
theorem walk (a0 : Option Addr) (len0 cap0 : Nat) (z0 : List Int) (a1 : Bool) (w : World) (w0 : IsRow .i64 w a0 len0 cap0 z0) (hr0 : len0 ≤ 17592186044416) :
    Calls Try.prog 5 #[.slice a0 len0 cap0, .bool a1] w fun e w' => e = .returned (.bool true) ∧ Below w.heap.size w w' := by
  have key : ∀ (cellAt : ∀ j, j < len0 → ∃ b off, a0 = some ⟨b, off, none⟩ ∧ w.cell? ⟨b, off + j, none⟩ = some (.int .i64 (z0.getD j 0))), Calls Try.prog 5 #[.slice a0 len0 cap0, .bool a1] w fun e w' => e = .returned (.bool true) ∧ Below w.heap.size w w' := by
    intro cellAt
    have CA := hide cellAt
    clear cellAt w0
    go_enter Try.func5, Try.ntmps5
    go_wp2_with fail
    refine (new_any w 8 (by omega) (by omega)).mono ?_
    rintro e w1 ⟨rfl, T1, C1, z1⟩
    have HC1 := hide C1
    have hz1 : w.heap.size < w1.heap.size := by omega
    have I0 : Hid (∃ hs, SInv w1 w.heap.size (fun k => k = w.heap.size) 0 (.slice none 0 0) w1 hs) := hide ⟨[], ⟨⟨0, [], [], _, T1, by omega, Kept.cl (Cl.refl _), fun g hg => by simp [Value.ownBlock] at hg, fun k hk => by omega, ⟨fun h hh => by simp at hh⟩⟩, by simp, ⟨rfl, .inl ⟨rfl, rfl⟩⟩⟩⟩
    clear T1 C1 z1
    go_wp2_with fail
    go_loopw [7, 28] (fun u v wr => ∃ j : Nat, j ≤ len0 ∧ v = .int .i64 (j : Int) ∧ Hid (∃ hs, SInv w1 w.heap.size (fun k => k = w.heap.size) j u wr hs)) (fun _ v _ => len0 - (intOf v).toNat)
    case atStart => exact ⟨0, Nat.zero_le _, rfl, I0⟩
    case round =>
      clear I0
      obtain ⟨j, hj, rfl, HI⟩ := hrel
      obtain ⟨hs, HS⟩ := HI.out
      obtain ⟨turns, S, F, M, T, t1, K, ap, lt, ol⟩ := HS.ex
      have hlen := HS.len
      have hrow := HS.row
      obtain ⟨ao, co, hold, hco, hoc⟩ := hs_at hrow
      subst hold
      by_cases hlt : j < len0
      · obtain ⟨b, off, rfl, c0⟩ := CA.out j hlt
        have hbl := World.block_lt_of_cell? w _ c0
        have f1 : Fr (fun k => k = w.heap.size) w wr := (HC1.out.out.mono (T := fun k => k = w.heap.size) (fun _ _ x => x.elim)).trans K.fr (fun _ _ x => x)
        have c1 : wr.cell? ⟨b, off + j, none⟩ = some (.int .i64 (z0.getD j 0)) := (World.cell?_of_block (f1.block b hbl (by show b ≠ w.heap.size; exact Nat.ne_of_lt hbl))).trans c0
        obtain ⟨x, Hx⟩ : ∃ x, Hid (z0.getD j 0 = x) := ⟨_, hide rfl⟩
        rw [Hx.out] at c1
        by_cases hm : 0 ≤ x ∧ x ≤ 4611686018427387904
        · have hs1 := hide (set_any T (by omega) x 0 hm (by simp))
          have HK := hide K
          have HAp := hide ap
          have HLt := hide lt
          have HOl := hide ol
          have HIv := hide T.inv
          have HRow := hide hrow
          have hx0 := hm.1
          have hx1 := hm.2
          clear T K c0 HI CA hm ap lt ol HS hrow hoc f1
          go_wp2_with fail
          refine hs1.out.mono ?_
          rintro e w2 ⟨i, S1, D2, F2, M2, rfl, pl, T2, p2, K2⟩
          have eD : D2 = [i] := by simpa using p2
          subst eD
          have hne := hide (fun h (hh : h ∈ hs) => HOl.out.ne HIv.out pl hh)
          have hol2 := hide (HOl.out.put (time := x) (key := 0) HIv.out pl)
          have hpl := pl.lt HIv.out
          have hgi : sg (S1.set i ⟨x, 0, turns, (sg S1 i).gen + 1⟩) i = ⟨x, 0, turns, (sg S1 i).gen + 1⟩ := by rw [sg_set S1 i _ i hpl.1, if_pos rfl]
          have hrow2 := owns_frame HRow.out K2.fr HAp.out
          have hsl2 := T2.inv.sl i (T2.inv.memD (by simp))
          rw [hgi] at hsl2
          dsimp only at hsl2
          obtain ⟨S2, HS2⟩ : ∃ S2, Hid (S2 = S1.set i ⟨x, 0, turns, (sg S1 i).gen + 1⟩) := ⟨_, hide rfl⟩
          obtain ⟨h, Hh⟩ : ∃ h, Hid (h = ((sg S1 i).gen + 1) * 4096 + (i : Int)) := ⟨_, hide rfl⟩
          have hiS := T2.inv.memD (by simp : i ∈ [i])
          have hmS := T2.inv.len
          rw [← HS2.out] at T2 hol2 hgi hiS hmS
          rw [← Hh.out] at hol2 hne
          rw [← Hh.out]
          have hh0 : 0 ≤ h ∧ h < 9223372036854775808 := by have := Hh.out; omega
          have hhs : Hid (∀ y, Hs S2 [i] y → y = h) := hide (by
            rintro y ⟨k, hk, rfl⟩
            rw [List.mem_singleton] at hk
            subst hk
            rw [hgi, Hh.out])
          have hyes : Hid (Hs S2 [i] h) := hide ⟨i, by simp, by rw [hgi, Hh.out]⟩
          have hwhen : Hid ((sg S2 i).when = x) := hide (by rw [hgi])
          have hsm : Hid (∀ y, y ∈ hs → 0 ≤ y ∧ y < 9223372036854775808) := hide (fun y hy => HOl.out.small HIv.out (by omega) hy)
          obtain ⟨ao2, co2, hold2, hco2, hoc2⟩ := hs_at hrow2
          simp only [Value.slice.injEq] at hold2
          obtain ⟨rfl, -, rfl⟩ := hold2
          have HT2 := hide T2
          have HK2 := hide K2
          have HR2 := hide hrow2
          have HO2 := hide hoc2
          have hh1 := hh0.1
          have hh2 := hh0.2
          have ht1 : turns + 1 ≤ 1125899906842624 := by omega
          clear T2 K2 pl p2 hs1 hpl hgi hrow2 hoc2 hsl2 hh0 HS2 Hh hiS hmS
          go_wp2_with fail
          go_loopw [42] (fun v ws => w2 = ws ∧ ∃ k : Nat, k ≤ hs.length ∧ v = .int .i64 (k : Int)) (fun v _ => hs.length - (intOf v).toNat)
          case atStart => exact ⟨rfl, 0, Nat.zero_le _, rfl⟩
          case round =>
            obtain ⟨rfl, k, hk, rfl⟩ := hrel
            by_cases hkl : k < hs.length
            · obtain ⟨g, rfl, ck⟩ := HO2.out k hkl
              have hmemk : hs.getD k 0 ∈ hs := by simp [List.getD, hkl]
              have hnek := hne.out _ hmemk
              have hsk := hsm.out _ hmemk
              have hno : Hid (¬ Hs S2 [i] (hs.getD k 0)) := hide (fun e => hnek (hhs.out _ e))
              have hha := hide (has_any HT2.out (hs.getD k 0) hsk.2)
              obtain ⟨y, Hy⟩ : ∃ y, Hid (hs.getD k 0 = y) := ⟨_, hide rfl⟩
              rw [Hy.out] at ck hnek hno hha
              have hyb : (y == h) = false := beq_eq_false_iff_ne.2 hnek
              clear hmemk hsk hnek
              go_wp2_with fail
              refine hha.out.mono ?_
              rintro e w3 ⟨r, rfl, rfl, hr⟩
              have er : r = false := by
                cases r with
                | false => rfl
                | true => exact (hno.out (hr.1 rfl)).elim
              subst er
              clear hr hha
              go_wp2_with fail
              go_roundw
              case rel => exact ⟨trivial, k + 1, by omega, by go_num⟩
              case measure => simp [intOf]; omega
            · clear HO2 hne
              have fin : ∀ (w3 : World) (F3 : List Nat) (M3 : Nat → Prop), Tm w3 w.heap.size w.heap.size 8 (turns + 1) S2 [] F3 M3 → Kept w2 w3 M2 M3 → ∀ (v' : Value) (w4 : World), w4.ownsRow w1.heap.size 3 1 v' (hs.length + 1) ((hs.map fun x => Value.int .i64 x) ++ [.int .i64 h]) → Fr (fun k => some k = (Value.slice ao hs.length co).ownBlock) w3 w4 → (v'.ownBlock = (Value.slice ao hs.length co).ownBlock ∨ ∃ g, v'.ownBlock = some g ∧ w3.heap.size ≤ g) → ∃ hs', SInv w1 w.heap.size (fun k => k = w.heap.size) (j + 1) v' w4 hs' := by
                intro w3 F3 M3 T3 K3 v' w4 o4 f4 l4
                have blk : ∀ g, (Value.slice ao hs.length co).ownBlock = some g → w1.heap.size ≤ g ∧ g < wr.heap.size := fun g hg => owns_block HRow.out hg
                have nM2 : ∀ g, (Value.slice ao hs.length co).ownBlock = some g → ¬ M2 g := fun g hg hm => by
                  rcases HK2.out.more g hm with e | e
                  · exact HAp.out g hg e
                  · have := (blk g hg).2; omega
                have sz2 : wr.heap.size ≤ w2.heap.size := HK2.out.fr.size
                have nM3 : ∀ g, (Value.slice ao hs.length co).ownBlock = some g → ¬ M3 g := fun g hg hm => by
                  rcases K3.more g hm with e | e
                  · exact nM2 g hg e
                  · have := (blk g hg).2; omega
                have Tb := T3.bound
                have T4 := Tb.frame f4 (fun k _ hm e => nM3 k e.symm hm.1)
                refine ⟨hs ++ [h], ⟨⟨turns + 1, S2, F3, _, T4, by omega, ?_, ?_, fun k hk => Nat.lt_of_lt_of_le hk.2 f4.size, hol2.out⟩, by simp; omega, by simpa using o4⟩⟩
                · refine (((HK.out.trans HK2.out).trans K3).pass f4 (fun k hk e => ?_)).less (fun k hk => hk.1)
                  have := (blk k e.symm).1
                  omega
                · intro g hg hm
                  rcases l4 with e | ⟨g', e, hg'⟩
                  · exact nM3 g (e ▸ hg) hm.1
                  · rw [hg] at e
                    simp only [Option.some.injEq] at e
                    have := hm.2
                    omega
              have FIN := hide fin
              have hle1 : w1.heap.size ≤ w2.heap.size := Nat.le_trans HK.out.fr.size HK2.out.fr.size
              clear fin
              have hca := hide (cancel_any HT2.out ht1 h hh2)
              have hfi := hide (fire_any HT2.out ht1 x)
              have hkk : k = hs.length := by omega
              subst hkk
              rcases a1 with _ | _
              · clear hca
                go_wp2_with fail
                refine hfi.out.mono ?_
                rintro e w3 ⟨v3, D3, F3, M3, fired, rfl, fd, hd3⟩
                have e3 : D3 = [] := by
                  cases D3 with
                  | nil => rfl
                  | cons y l =>
                    have h1 := hd3 y List.mem_cons_self
                    have h2 := fd.perm.subset (List.mem_append.2 (.inr List.mem_cons_self) : y ∈ fired ++ y :: l)
                    rw [List.mem_singleton] at h2
                    subst h2
                    rw [hwhen.out] at h1
                    omega
                subst e3
                have ef : fired.length = 1 := by have := fd.perm.length_eq; simpa using this
                obtain ⟨a3, c3, hv3, _⟩ := owns_shape fd.row
                rw [ef] at hv3
                subst hv3
                have hrow3 := owns_frame HR2.out fd.kept.fr (fun g hg hm => by
                  rcases HK2.out.more g hm with e | e
                  · exact HAp.out g hg e
                  · have := (owns_block HRow.out hg).2; omega)
                have FIN3 := hide (FIN.out w3 F3 M3 fd.tm fd.kept)
                have HR3 := hide hrow3
                have hle3 : w1.heap.size ≤ w3.heap.size := Nat.le_trans hle1 fd.kept.fr.size
                clear fd hd3 hfi hrow3 FIN
                go_wp2_with (at_builtin; apply Hid.out)
                unfold Hid
                refine wpList_append_wide rfl _ _ rfl w3 w1.heap.size (.slice ao hs.length co) hs.length _ h rfl rfl HR3.out (by omega) hle3 ?_
                intro v' w4 o4 f4 l4
                have FI := hide (FIN3.out v' w4 o4 f4 l4)
                clear o4 f4 l4 FIN3 HR3
                go_wp2_with fail
                go_roundw
                case rel => exact ⟨j + 1, by omega, by go_num, FI⟩
                case measure => simp [intOf]; omega
              · clear hfi
                go_wp2_with fail
                refine hca.out.mono ?_
                rintro e w3 (⟨rfl, rfl, hno⟩ | ⟨rfl, i3, D3, F3, M3, he, T3, hp3, K3⟩)
                · exact (hno hyes.out).elim
                · have e3 : D3 = [] := by have := hp3.length_eq; simp at this; exact this
                  subst e3
                  have hrow3 := owns_frame HR2.out K3.fr (fun g hg hm => by
                    rcases HK2.out.more g hm with e | e
                    · exact HAp.out g hg e
                    · have := (owns_block HRow.out hg).2; omega)
                  have FIN3 := hide (FIN.out w3 F3 M3 T3 K3)
                  have HR3 := hide hrow3
                  have hle3 : w1.heap.size ≤ w3.heap.size := Nat.le_trans hle1 K3.fr.size
                  clear T3 K3 hca hrow3 FIN he hp3
                  go_wp2_with (at_builtin; apply Hid.out)
                  unfold Hid
                  refine wpList_append_wide rfl _ _ rfl w3 w1.heap.size (.slice ao hs.length co) hs.length _ h rfl rfl HR3.out (by omega) hle3 ?_
                  intro v' w4 o4 f4 l4
                  have FI := hide (FIN3.out v' w4 o4 f4 l4)
                  clear o4 f4 l4 FIN3 HR3
                  go_wp2_with fail
                  go_roundw
                  case rel => exact ⟨j + 1, by omega, by go_num, FI⟩
                  case measure => simp [intOf]; omega
        · have hs1 := hide (set_bad wr (.pointer (some ⟨w.heap.size, 0, none⟩)) (.inr ⟨_, rfl⟩) x 0 hm)
          have FI : Hid (∃ hs', SInv w1 w.heap.size (fun k => k = w.heap.size) (j + 1) (.slice ao hs.length co) wr hs') := hide ⟨hs, ⟨⟨turns, S, F, M, T, by omega, K, ap, lt, ol⟩, by omega, hrow⟩⟩
          clear T K c0 HI CA hm ap lt ol HS hrow hoc f1
          go_wp2_with fail
          refine hs1.out.mono ?_
          rintro e w2 ⟨rfl, rfl⟩
          clear hs1
          go_wp2_with fail
          go_roundw
          case rel => exact ⟨j + 1, by omega, by go_num, FI⟩
          case measure => simp [intOf]; omega
      · have hsm : Hid (∀ y, y ∈ hs → 0 ≤ y ∧ y < 9223372036854775808) := hide (fun y hy => ol.small T.inv (by omega) hy)
        have HT := hide T
        have HK := hide K
        have HO := hide hoc
        have ht1 : turns ≤ 1125899906842624 := by omega
        have hnoA : Hid (∀ y, ¬ Hs S [] y) := hide (by rintro y ⟨k, hk, _⟩; simp at hk)
        obtain ⟨vs, vd, vf, ho, _⟩ := T.obj
        have hle := hide (len_any ho)
        clear T K HI CA ap lt ol HS hrow hoc ho
        go_wp2_with fail
        go_loopw [80] (fun v ws => wr = ws ∧ ∃ k : Nat, k ≤ hs.length ∧ v = .int .i64 (k : Int)) (fun v _ => hs.length - (intOf v).toNat)
        case atStart => exact ⟨rfl, 0, Nat.zero_le _, rfl⟩
        case round =>
          obtain ⟨rfl, k, hk, rfl⟩ := hrel
          by_cases hkl : k < hs.length
          · obtain ⟨g, rfl, ck⟩ := HO.out k hkl
            have hmemk : hs.getD k 0 ∈ hs := by simp [List.getD, hkl]
            have hsk := hsm.out _ hmemk
            have hha := hide (has_any HT.out (hs.getD k 0) hsk.2)
            have hca := hide (cancel_any HT.out ht1 (hs.getD k 0) hsk.2)
            obtain ⟨y, Hy⟩ : ∃ y, Hid (hs.getD k 0 = y) := ⟨_, hide rfl⟩
            rw [Hy.out] at ck hha hca
            clear hmemk hsk
            go_wp2_with fail
            refine hca.out.mono ?_
            rintro e w3 (⟨rfl, rfl, -⟩ | ⟨rfl, i3, D3, F3, M3, he, T3, hp3, K3⟩)
            · go_wp2_with fail
              refine hha.out.mono ?_
              rintro e w3 ⟨r, rfl, rfl, hr⟩
              have er : r = false := by
                cases r with
                | false => rfl
                | true => exact (hnoA.out _ (hr.1 rfl)).elim
              subst er
              clear hr hha hca
              go_wp2_with fail
              go_roundw
              case rel => exact ⟨trivial, k + 1, by omega, by go_num⟩
              case measure => simp [intOf]; omega
            · exact absurd hp3.length_eq (by simp)
          · clear HO hsm
            go_wp2_with (first | (go_at_call 23; refine hle.out.mono ?_; rintro e w' ⟨rfl, rfl⟩) | (go_at_call 11; refine (speaks_any _).mono ?_; rintro e wz ⟨rfl, hg⟩))
            go_ret
            exact ⟨rfl, ((HC1.out.out.trans HK.out.fr (fun i hi hm => by omega)).trans hg.out (fun _ _ x => x)).below (Nat.le_refl _) (fun _ _ x => x)⟩
  rcases w0 with ⟨rfl, rfl, rfl, rfl⟩ | ⟨x, rfl, hl, hm, hz, hcell, hwz⟩
  · exact key (fun j hj => by omega)
  · refine key (fun j hj => ?_)
    obtain ⟨b, off, spot⟩ := x
    have h1 := hcell j (by omega)
    have hc := hcell 0 (by omega)
    have hspot : spot = none := by simpa [Addr.add] using World.cell?_spot hc
    subst hspot
    exact ⟨b, off, rfl, by rw [← addr_add]; exact h1⟩

set_option maxRecDepth 100000 in
theorem lifted (os : Os) (started : os.Started) (H : Type) (enc : TypeId × Value → H) :
    ReturnsInHanded {} Try.checked os 5 .any (Rows.timersStaleSpec.pre6 enc Try.prog Try.f5 Rows.timersStaleRow.domain false) (Rows.timersStaleSpec.post enc Try.prog Try.f5 false true false false) := by
  refine returnsInHanded_of_change_sized (C := Try.checked) own started (by kernel_rfl) Try.func5
    (ChangeSpec.witness6 (enc := enc) (C := Try.checked) false ⟨#[], #[.slice none 0 0, .bool false], []⟩ 8 (by kernel_rfl) (by kernel_rfl) (by kernel_rfl) (by kernel_rfl)) ?_
  intro W base args ds gs before hval0 hW hcnd hsz0 _
  have hsz : (DataW.weightsEach Try.prog (Try.f5.params.toList ++ Rows.timersStaleSpec.plain.varTypes Try.prog) (ds ++ gs)).all (· ≤ reachBytes) = true := hsz0
  have hval : ∀ (j : Nat) t v, Try.f5.params[j]? = some t → args[j]? = some v → Value.okWide Try.prog W .any base t v := hval0
  have hW' := hW
  obtain ⟨p, q, hA0, hV, rfl, hfz, hnd⟩ := hW
  have hA : DataW.TrodAll enc Try.prog W 0 (fun _ => true) true Try.f5.params.toList args.toList ds p := hA0
  rw [Try.params5] at hA hval hsz
  obtain ⟨v0, vs0, d0, ds0, p0, q0, hargs, rfl, rfl, h0, r0⟩ := trodAll_cons hA
  obtain ⟨v1, vs1, d1, ds1, p1, q1, rfl, rfl, rfl, h1, r1⟩ := trodAll_cons r0
  obtain ⟨rfl, rfl, rfl⟩ := trodAll_nil r1
  obtain rfl : args = #[v0, v1] := by cases args; simp_all
  obtain ⟨rfl, rfl⟩ := trodVars_none hV
  obtain ⟨a0, len0, cap0, rfl⟩ := okWide_slice Try.underlying31 (hval 0 31 v0 rfl rfl)
  have k0 := h0
  have lt0 : ∀ x ∈ p0, x.block < W.heap.size := by obtain ⟨m, hm⟩ := k0; exact DataW.trod_lt m _ _ _ hm
  obtain ⟨z0, w0, hr0⟩ : ∃ zs, IsRow .i64 W a0 len0 cap0 zs ∧ len0 ≤ 17592186044416 := by
    obtain ⟨fuel, hf⟩ := h0
    rcases open_ints Try.underlying31 Try.underlying3 (by kernel_rfl) hf with ⟨hcs, _⟩ | ⟨x, l, c, zs, hcs, _, hl, hm, hz, hx, hcell, hwz⟩
    · simp [Value.cells] at hcs
      obtain ⟨rfl, rfl, rfl⟩ := hcs
      exact ⟨[], .inl ⟨rfl, rfl, rfl, rfl⟩, by omega⟩
    · simp [Value.cells] at hcs
      obtain ⟨rfl, rfl, rfl⟩ := hcs
      have hzl : zs.length = cap0 := by simpa using hz
      have hb := sized_slice hsz (j := 0) (t := 31) (e := 3) rfl (by rw [(Prod.mk.inj hx).1]; rfl) Try.underlying31
      rw [show Try.prog.bytesOf 3 = 8 by kernel_rfl] at hb
      simp only [lits, List.length_map, List.length_take, List.length_drop, reachBytes] at hb
      exact ⟨zs, .inr ⟨_, rfl, hl, hm, hzl, hcell, hwz⟩, by omega⟩
  obtain ⟨a1, rfl, rfl, rfl⟩ := open_bool Try.underlying4 (hval 1 4 v1 rfl rfl) h1
  clear hA0 hval0
  refine (walk a0 len0 cap0 z0 a1 W w0 hr0).mono fun e W' ⟨he, bel⟩ => ?_
  subst he
  exact ⟨_, rfl, _, _, _, [], _, [], hW', trodAll_mk1 (shut_bool Try.underlying4 _), (trodAll_cons_mk (Below.trod laidOut (by kernel_rfl) (of_decide_eq_true (by kernel_rfl)) k0 bel lt0) (trodAll_cons_mk (shut_bool Try.underlying4 _) trodAll_mk0)), rfl, bel.frame _, fun h => by cases h⟩

theorem over : Rows.timersStaleRow.holds Try.pinned (OpenSpec.ofChange Rows.timersStaleSpec) :=
  OpenClaim.holds_of_wide 5 Try.f5 rfl rfl rfl rfl rfl rfl rfl ⟨rfl, rfl, rfl, rfl, rfl⟩ rfl rfl rfl rfl rfl (by kernel_rfl) Try.func5 (by kernel_rfl)
    (of_decide_eq_true (by kernel_rfl)) (by unfold Func.isWrapper; first | (rw [if_pos (by decide +kernel)]; kernel_rfl) | (rw [if_neg (by decide +kernel)]; exact ⟨rfl, rfl⟩))
    (fun os started H enc _ => lifted os started H enc)

theorem proved : Rows.TimersStaleSaid := over
end Go.Proofs.Ytbmhhkpehilioaa.timersStale
namespace Go.Proofs.Ytbmhhkpehilioaa
theorem timersStale_holds : Rows.TimersStaleSaid := timersStale.proved
#print axioms timersStale_holds
end Go.Proofs.Ytbmhhkpehilioaa
