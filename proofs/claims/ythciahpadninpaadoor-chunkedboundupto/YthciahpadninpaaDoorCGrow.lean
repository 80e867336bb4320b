/- The library's Grow of nothing, and Concat of three. -/
import Derived.Test.YthciahpadninpaaDoorCTake
import Derived.Lib.AppendZeros
namespace Go.Proofs.YthciahpadninpaaDoor
open Go.ChangeShapes Go.WideShapes Go.ChangeAt Go.RowKit

theorem zeroCells_size (z : Value) (hz : z.cells = #[z]) (n : Nat) : (Builtin.zeroCells z.cells n).size = n := by
  rw [hz]
  simp [Builtin.zeroCells]
theorem row_empty {W : World} {g : Nat} {cur : Array Value} {cap : Nat} (h : W.heap[g]? = some (.cells cur 5 (0, 0))) (hs : cur.size = cap) (hc : cap ≤ maxLen) {base : Nat} (hb : base ≤ g) : Row W base 5 (.slice (some ⟨g, 0, none⟩) 0 cap) [] := by
  refine ⟨rfl, .inr ⟨g, cap, cur, rfl, hb, h, Nat.zero_le _, hc, by simpa using hs, by simp⟩⟩
set_option maxHeartbeats 2000000 in
theorem grow_any (n : Nat) (w : World) (h0 : 0 < n) (hn : n ≤ 140737488355328) :
    Calls Tryd.prog 41 #[.slice none 0 0, .int .i64 (n : Int)] w fun e w' => ∃ g c, e = .returned (.slice (some ⟨g, 0, none⟩) 0 c) ∧ Row w' w.heap.size 5 (.slice (some ⟨g, 0, none⟩) 0 c) (bc []) ∧ Below w.heap.size w w' := by
  have t1 : ¬ (n : Int) < 0 := by omega
  have t2 : (0 : Int) < (n : Int) := by omega
  obtain ⟨i, hi, hz, hs1, hb1⟩ := infoB
  have hrun := Lib.run_append_nil_zeros (P := Tryd.prog) w 29 3 29 5 i (.int .u8 0) .i64 .i64 Tryd.underlying29 Tryd.underlying3 hi hz n h0 (by omega) (by omega) (by rw [hb1]; omega)
  have hge := grownCap_ge w n 0 5
  have hle := grownCap_le_maxLen w n 0 5 (by unfold maxLen; omega)
  generalize grownCap w n 0 5 = cap at hrun hge hle
  have HR := hide hrun
  clear hrun
  go_enter Tryd.func41, Tryd.ntmps41
  go_wp2_with (at_builtin; apply Hid.out)
  unfold Hid
  refine Lib.wpList_append_run w rfl _ _ 29 3 rfl (.slice none 0 0) (.int .i64 (n : Int)) rfl rfl _ _ HR.out ?_
  have HB := hide (((Below.refl w.heap.size w).drew).alloc (Nat.le_refl _) (.cells (Builtin.zeroCells (Value.int .u8 0).cells n ++ Builtin.zeroCells (Value.int .u8 0).cells (cap - n)) 5))
  have HH := hide (hp_new w.drew (.cells (Builtin.zeroCells (Value.int .u8 0).cells n ++ Builtin.zeroCells (Value.int .u8 0).cells (cap - n)) 5))
  have HZ : Hid ((Builtin.zeroCells (Value.int .u8 0).cells n ++ Builtin.zeroCells (Value.int .u8 0).cells (cap - n)).size = cap) := hide (by
    rw [Array.size_append, zeroCells_size _ rfl, zeroCells_size _ rfl]; omega)
  generalize (Builtin.zeroCells (Value.int .u8 0).cells n ++ Builtin.zeroCells (Value.int .u8 0).cells (cap - n)) = C at HB HH HZ ⊢
  generalize (w.drew.alloc (.cells C 5)) = w2 at HB HH ⊢
  go_wp2_with fail
  go_ret
  exact ⟨_, _, rfl, row_empty HH.out HZ.out hle (Nat.le_refl _), HB.out⟩
/-! ### Pieces -/
def Pcs (W : World) (v : Value) (L : List (List UInt8)) : Prop :=
  ∃ (a : Option Addr) (c : Nat), v = .slice a L.length c ∧ L.length ≤ c ∧ ∀ j (h : j < L.length), ∃ g o ba bc, a = some ⟨g, o, none⟩ ∧ g < W.heap.size ∧ W.cell? ⟨g, o + j, none⟩ = some (.slice ba L[j].length bc) ∧ Bs W W.heap.size (.slice ba L[j].length bc) L[j] ∧ Shp (.slice ba L[j].length bc)
theorem flat_take {L : List (List UInt8)} {k : Nat} (h : k < L.length) : (L.take (k + 1)).flatten = (L.take k).flatten ++ L[k] := by
  rw [List.take_succ_eq_append_getElem h, List.flatten_append, List.flatten_cons, List.flatten_nil, List.append_nil]
theorem flat_le (L : List (List UInt8)) (k : Nat) : ((L.take k).flatten).length ≤ L.flatten.length := by
  conv => rhs; rw [← List.take_append_drop k L]
  rw [List.flatten_append, List.length_append]
  omega
theorem wpList_append_bs_k {ops : Array Oper} {rest : List Oper} {o : Oper} {a : Act} {Q : Exit → Act → World → Prop} (hgd : o.guard = none) (s x : Operand)
    (ho : o.op = .call { callee := .builtin .append, args := #[s, x], argTypes := #[29, 29] }) (W : World) (base nb : Nat) (v u : Value) (O l : List UInt8) (hs : a.eval s = v) (hx : a.eval x = u)
    (hown : Row W base 5 v (bc O)) (hB : Bs W nb u l) (hS : Shp u) (hn : O.length + l.length ≤ 140737488355328) (hbase : base ≤ W.heap.size)
    (h : ∀ v' W', Row W' base 5 v' (bc (O ++ l)) → Below base W W' → Kept W W' v v' → wpList Tryd.prog ops Q rest (a.put o.dst v') W') : wpList Tryd.prog ops Q (o :: rest) a W := by
  refine wpList_plain hgd fun K hK => ?_
  obtain ⟨v', W', hr, h2, h3, h4⟩ := append_bs_k W base nb o.type v u O l hown hB hS hn hbase
  unfold Oper.wp execOp
  simp only [ho, resolve, invoke, builtin, Sem.run_bind, Sem.run_pure, Result.andThen_ok, List.map_toArray, List.map_cons, List.map_nil, hs, hx, hr]
  exact hK _ _ (h v' W' h2 h3 h4)
set_option maxHeartbeats 4000000 in
theorem concat_any (v : Value) (L : List (List UInt8)) (w : World) (hP : Pcs w v L) (hfl : L.flatten.length ≤ 70368744177664) (h0 : 0 < L.flatten.length) (hn : L.length ≤ 1099511627776) :
    Calls Tryd.prog 30 #[v] w fun e w' => ∃ u, e = .returned u ∧ Row w' w.heap.size 5 u (bc L.flatten) ∧ Below w.heap.size w w' := by
  obtain ⟨pa, pc, rfl, hpc, hcells⟩ := hP
  have HPC := hide hcells
  clear hcells
  go_enter Tryd.func30, Tryd.ntmps30
  go_wp2_with fail
  go_loop [3, 11] (fun sv i => ∃ k : Nat, k ≤ L.length ∧ sv = .int .i64 (((L.take k).flatten.length : Nat) : Int) ∧ i = .int .i64 k) (fun _ i => L.length - (intOf i).toNat)
  case atStart => exact ⟨0, Nat.zero_le _, rfl, rfl⟩
  case round =>
    obtain ⟨k, hk, rfl, rfl⟩ := hrel
    by_cases hlt : k < L.length
    · obtain ⟨g1, o1, ba, bcp, rfl, hg1, q1, hbs, hsh⟩ := HPC.out k hlt
      have hft := congrArg List.length (flat_take hlt)
      have hle := flat_le L (k + 1)
      rw [List.length_append] at hft
      rw [hft] at hle
      generalize hN : (L.take (k + 1)).flatten.length = N1 at hft
      generalize (L.take k).flatten.length = N at hft hle ⊢
      generalize L[k].length = m at hft hle q1
      have hx : (N : Int) + (m : Int) = ((N1 : Nat) : Int) := by omega
      have ht : ¬ ((N1 : Nat) : Int) < 0 := by omega
      have HN := hide hN
      clear hft hN hbs hsh
      have hb1 : N1 ≤ 70368744177664 := by omega
      go_wp2_with fail
      exact ⟨⟨k + 1, by omega, by rw [HN.out], by go_num⟩, by simp [intOf]; omega⟩
    · obtain rfl : k = L.length := by omega
      rw [List.take_of_length_le (Nat.le_refl _)]
      have HFL := hide hfl
      generalize L.flatten.length = N at h0 hfl ⊢
      clear hlt hk
      go_wp2_with fail
      refine (grow_any N w h0 (by omega)).mono ?_
      rintro e w1 ⟨g, c, rfl, hr, b1⟩
      have R1 := hide hr
      have B1 := hide b1
      clear hr b1
      go_wp2_with fail
      go_loopw [6, 27] (fun av i wr => ∃ (k : Nat) (aa : Option Addr) (an ac : Nat), k ≤ L.length ∧ av = .slice aa an ac ∧ i = .int .i64 k ∧ Hid (Row wr w.heap.size 5 (.slice aa an ac) (bc (L.take k).flatten)) ∧ Hid (Below w.heap.size w wr)) (fun _ i _ => L.length - (intOf i).toNat)
      case atStart => exact ⟨0, _, _, _, Nat.zero_le _, rfl, rfl, R1, B1⟩
      case round =>
        obtain ⟨k, aa, an, ac, hk, rfl, rfl, HR, HB⟩ := hrel
        by_cases hlt : k < L.length
        · obtain ⟨g1, o1, ba, bcp, rfl, hg1, q1, hbs, hsh⟩ := HPC.out k hlt
          have hft := flat_take hlt
          have hle := Nat.le_trans (flat_le L (k + 1)) HFL.out
          rw [hft, List.length_append] at hle
          have HFT := hide hft
          have HBS := hide hbs
          have HSH := hide hsh
          have r1 : wr.cell? ⟨g1, o1 + k, none⟩ = some (.slice ba L[k].length bcp) := (HB.out.cell (p := ⟨g1, o1 + k, none⟩) hg1).trans q1
          generalize L[k] = b at HFT hle HBS HSH r1
          clear hft q1 hbs hsh
          go_wp2_with (at_builtin; apply Hid.out)
          unfold Hid
          refine wpList_append_bs_k rfl _ _ rfl wr w.heap.size w.heap.size (.slice aa an ac) (.slice ba b.length bcp) (L.take k).flatten b rfl rfl HR.out (HBS.out.below (Nat.le_refl _) HB.out) HSH.out (by omega) HB.out.size ?_
          intro v' W1 O' B' K'
          obtain ⟨na, nn, nc, rfl⟩ : ∃ a n c, v' = .slice a n c := by
            obtain ⟨a, c, h, _⟩ := O'.shape
            exact ⟨a, _, c, h⟩
          have R2 := hide O'
          have B2 := hide (HB.out.trans B')
          clear O' B' K' r1
          go_wp2_with fail
          exact ⟨⟨k + 1, na, nn, nc, by omega, rfl, by go_num, hide (by rw [HFT.out]; exact R2.out), B2⟩, by simp [intOf]; omega⟩
        · obtain rfl : k = L.length := by omega
          have hr := HR.out
          rw [List.take_of_length_le (Nat.le_refl _)] at hr
          have R3 := hide hr
          clear hr hlt hk HR
          go_wp2_with fail
          go_ret
          exact ⟨_, rfl, R3.out, HB.out⟩
end Go.Proofs.YthciahpadninpaaDoor
