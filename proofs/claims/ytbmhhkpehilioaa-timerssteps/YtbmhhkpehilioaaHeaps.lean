/- insert puts a slot into a heap, remove takes away what lies at a place: what is left is a heap again. -/
import Derived.Test.YtbmhhkpehilioaaSink
namespace Go.Proofs.Ytbmhhkpehilioaa
open Go.ChangeShapes Go.WideShapes Go.ChangeAt Go.RowKit

theorem wpList_append_int {ops : Array Oper} {rest : List Oper} {o : Oper} {a : Act} {Q : Exit → Act → World → Prop} (hgd : o.guard = none) (s x : Operand)
    (ho : o.op = .call { callee := .builtin .append, args := #[s, x], argTypes := #[31, 31] }) (W : World) (base : Nat) (v : Value) (n : Nat) (xs : List Value) (y : Int) (hs : a.eval s = v) (hx : a.eval x = .slice (some ⟨W.heap.size, 0, none⟩) 1 1)
    (hown : W.ownsRow base 3 1 v n xs) (hn : n ≤ 1099511627776) (hbase : base ≤ W.heap.size)
    (h : ∀ v' W', W'.ownsRow base 3 1 v' (n + 1) (xs ++ [.int .i64 y]) → Fr (fun k => some k = v.ownBlock) W W' → (v'.ownBlock = v.ownBlock ∨ ∃ g, v'.ownBlock = some g ∧ W.heap.size ≤ g) → wpList Try.prog ops Q rest (a.put o.dst v') W') : wpList Try.prog ops Q (o :: rest) a (W.alloc (.cells #[.int .i64 y] 3)) := by
  refine wpList_plain hgd fun K hK => ?_
  obtain ⟨v', W', hr, h2, h3, h4, h5⟩ := append_int W base o.type v n xs y hown hn hbase
  unfold Oper.wp execOp
  simp only [ho, resolve, invoke, builtin, Sem.run_bind, Sem.run_pure, Result.andThen_ok, List.map_toArray, List.map_cons, List.map_nil, hs, hx, hr]
  exact hK _ _ (h v' W' h2 h3 h4)

theorem run_int (l : List Nat) (x : Nat) : (l.map fun x : Nat => Value.int .i64 (x : Int)) ++ [.int .i64 (x : Int)] = (l ++ [x]).map fun x : Nat => Value.int .i64 (x : Int) := by simp
theorem own_run {W : World} {base : Nat} {v : Value} {l : List Nat} {x : Nat} (h : W.ownsRow base 3 1 v (l.length + 1) ((l.map fun x : Nat => Value.int .i64 (x : Int)) ++ [.int .i64 (x : Int)])) : Own W base v (l ++ [x]) := by
  unfold Own
  rw [run_int] at h
  simpa using h

set_option maxHeartbeats 1000000 in
theorem insert_any {w : World} {base : Nat} {v : Value} {l : List Nat} (r : Nat → Int) (x : Nat) (cmp : Value) (hown : Own w base v l) (hbase : base ≤ w.heap.size) (hl : l.length ≤ 8000) (hp : Hp r l) (hc : Cmp w (fun k => some k = v.ownBlock) r (l ++ [x]) cmp) :
    Calls Try.prog 36 #[v, .int .i64 (x : Int), cmp] w fun e w' => ∃ v' l', e = .returned v' ∧ Own w' base v' l' ∧ l'.Perm (l ++ [x]) ∧ Hp r l' ∧ Fr (fun k => some k = v.ownBlock) w w' ∧ (v'.ownBlock = v.ownBlock ∨ ∃ g, v'.ownBlock = some g ∧ w.heap.size ≤ g) := by
  have HC := hide hc
  have HP := hide hp
  have HO := hide hown
  obtain ⟨a0, c0, rfl, _⟩ := hown.shape
  clear hc hp hown
  go_enter Try.func36, Try.ntmps36
  go_wp2_with (at_builtin; apply Hid.out)
  unfold Hid
  refine wpList_append_int rfl _ _ rfl w base (.slice a0 l.length c0) _ _ (x : Int) rfl rfl HO.out (by omega) hbase ?_
  intro v' w1 h2 h3 h4
  obtain ⟨g, cap, rest, hv, hg1, hg2, hg3, hg4, hg5⟩ := (own_run h2).row (by simp)
  rw [List.length_append, List.length_singleton] at hv
  subst hv
  have HF := hide h3
  have HL := hide h4
  have HR := hide hg5
  have HG := hide hg4
  have HM := hide hg3
  clear h2 h3 h4 hg5 hg4 hg3
  go_wp2_with fail
  have hT : ∀ i, i < w.heap.size → i = g → some i = (Value.slice a0 l.length c0).ownBlock := by
    intro i hi e
    rcases HL.out with h | ⟨g', h, h'⟩
    · rw [← h, e]; rfl
    · simp only [Value.ownBlock, Option.some.injEq] at h
      omega
  have hr := rise_any (cap := cap) r rest (l ++ [x]) l.length cmp HR.out (by simp) (by simp; omega) (HC.out.mono HF.out hT (fun _ h => h)) (insert_inv HP.out x)
  rw [List.length_append, List.length_singleton] at hr
  have HH := hide hr
  have HT := hide hT
  clear hr hT
  refine HH.out.mono ?_
  rintro e w2 ⟨rfl, l', h1, h2⟩
  have H1 := hide h1
  have H2 := hide h2
  clear h1 h2
  go_wp2_with fail
  go_ret
  have hlen := H1.out.len
  rw [List.length_append, List.length_singleton] at hlen
  have hcap : cap = l'.length + rest.length := by rw [hlen, HG.out]; simp
  have ho := Own.of hg1 H1.out.row hcap HM.out
  rw [hlen] at ho
  exact ⟨_, l', rfl, ho, H1.out.perm, H2.out, HF.out.trans H1.out.fr HT.out, HL.out⟩

theorem is_split (l : List Nat) (rest : List Value) (k : Nat) : is l rest = is (l.take k) ((l.drop k).map (fun x : Nat => Value.int .i64 (x : Int)) ++ rest) := by
  unfold is
  rw [← List.append_assoc, ← List.map_append, List.take_append_drop]

set_option maxHeartbeats 1000000 in
theorem remove_any {w : World} {base : Nat} {v : Value} {l : List Nat} (r : Nat → Int) (p : Nat) (cmp : Value) (hown : Own w base v l) (hl : l.length ≤ 8000) (hp : Hp r l) (hpl : p < l.length) (hc : Cmp w (fun k => some k = v.ownBlock) r l cmp) :
    Calls Try.prog 68 #[v, .int .i64 (p : Int), cmp] w fun e w' => ∃ v' l', e = .returned v' ∧ Own w' base v' l' ∧ (gt l p :: l').Perm l ∧ Hp r l' ∧ Fr (fun k => some k = v.ownBlock) w w' ∧ v'.ownBlock = v.ownBlock := by
  obtain ⟨g, cap, rest, rfl, hg1, hg2, hg3, hg4, hg5⟩ := hown.row (by omega)
  obtain ⟨m, hm⟩ : ∃ m, m + 1 = l.length := ⟨l.length - 1, by omega⟩
  have HO := hide hown
  have HC := hide hc
  have HP := hide hp
  have HR := hide hg5
  have HG := hide hg4
  have HM := hide hg3
  have c1 : w.cell? ⟨g, m, none⟩ = some (.int .i64 (gt l m : Int)) := by rw [cell_of hg5, is_at l rest m (by omega)]
  have z1 : w.frozen? ⟨g, p, none⟩ = false := frozen_of hg5 p
  have c2 : w.cell? ⟨g, p, none⟩ = some (.int .i64 (gt l p : Int)) := by rw [cell_of hg5, is_at l rest p hpl]
  obtain ⟨x, Hx⟩ : ∃ x, Hid (gt l m = x) := ⟨_, hide rfl⟩
  obtain ⟨y, Hy⟩ : ∃ y, Hid (gt l p = y) := ⟨_, hide rfl⟩
  rw [Hx.out] at c1
  rw [Hy.out] at c2
  have epull : pull l p = (l.set p x).take m := by unfold pull; rw [← Hx.out, show l.length - 1 = m by omega]
  have lpull : (pull l p).length = m := by rw [pull_length]; omega
  have R2 : (w.setCell ⟨g, p, none⟩ (.int .i64 (x : Int))).heap[g]? = some (.cells (is (pull l p) (((l.set p x).drop m).map (fun x : Nat => Value.int .i64 (x : Int)) ++ rest)) 3 (0, 0)) := by
    have h := hp_set hg5 p (.int .i64 (x : Int))
    rw [is_set l rest p x hpl, is_split _ rest m, ← epull] at h
    exact h
  have C2 : cap = (pull l p).length + (((l.set p x).drop m).map (fun x : Nat => Value.int .i64 (x : Int)) ++ rest).length := by
    rw [lpull, hg4]; simp; omega
  have hsub : ∀ z, z ∈ pull l p → z ∈ l := fun z hz => (pull_perm l p hpl).subset (List.mem_cons_of_mem _ hz)
  have F2 : Fr (fun k => some k = (Value.slice (some ⟨g, 0, none⟩) l.length cap).ownBlock) w (w.setCell ⟨g, p, none⟩ (.int .i64 (x : Int))) := (Fr.set w g p _).mono (fun i _ h => by subst h; rfl)
  have hT : ∀ i, i < w.heap.size → i = g → some i = (Value.slice (some ⟨g, 0, none⟩) l.length cap).ownBlock := fun i _ h => by subst h; rfl
  have RR := hide R2
  have CC := hide C2
  have HS := hide hsub
  have FF := hide F2
  have HT := hide hT
  have LP := hide lpull
  have hx64 : (m : Int) < (l.length : Int) := by omega
  have hml : (l.length : Int) - 1 = (m : Int) := by omega
  clear hown hc hp hg5 hg4 hg3 R2 C2 hsub F2 hT epull lpull
  by_cases hpm : p = m
  · subst hpm
    have hxy : y = x := by rw [← Hx.out, ← Hy.out]
    subst hxy
    go_enter Try.func68, Try.ntmps68
    go_wp2_with fail
    go_ret
    have ho := Own.of hg1 RR.out CC.out HM.out
    rw [LP.out] at ho
    exact ⟨_, pull l p, rfl, ho, pull_perm l p hpl, pull_last HP.out p (by omega) (by omega), FF.out, rfl⟩
  · have hpm2 : (p : Int) < (m : Int) := by omega
    have hs := sink_any (cap := cap) r _ (pull l p) p cmp RR.out (by rw [LP.out]; omega) (by rw [LP.out]; omega) (HC.out.mono FF.out HT.out HS.out) (pull_inv HP.out p (by omega))
    rw [LP.out] at hs
    have HSK := hide hs
    clear hs
    go_enter Try.func68, Try.ntmps68
    go_wp2_with fail
    refine HSK.out.mono ?_
    rintro e w2 ⟨rfl, l2, h1, h2⟩
    have hlen := h1.len
    rw [LP.out] at hlen
    have hr := rise_any (cap := cap) r _ l2 p cmp h1.row (by omega) (by omega) ((HC.out.mono FF.out HT.out HS.out).mono h1.fr (fun _ _ x => x) (fun z hz => h1.perm.subset hz)) h2
    rw [hlen] at hr
    have HRS := hide hr
    have H1 := hide h1
    have HLN := hide hlen
    clear hr h1 h2 hlen
    go_wp2_with fail
    refine HRS.out.mono ?_
    rintro e w3 ⟨rfl, l3, h1, h2⟩
    have H2 := hide h1
    have H3 := hide h2
    clear h1 h2
    go_wp2_with fail
    go_ret
    have hlen := H2.out.len
    rw [HLN.out] at hlen
    have hcap := CC.out
    rw [LP.out] at hcap
    have ho := Own.of hg1 H2.out.row (by rw [hlen]; exact hcap) HM.out
    rw [hlen] at ho
    have hperm := H2.out.perm.trans H1.out.perm
    refine ⟨_, l3, rfl, ho, ?_, H3.out, (FF.out.trans H1.out.fr HT.out).trans H2.out.fr HT.out, rfl⟩
    exact (hperm.cons _).trans (pull_perm l p hpl)
end Go.Proofs.Ytbmhhkpehilioaa
