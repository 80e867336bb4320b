/- Acts of any number of parts, gathered. -/
import Derived.Test.YtjfpdenakgifgaaADf
import Derived.Lib.AppendZeros
namespace Go.Proofs.Ytjfpdenakgifgaa
open Go.ChangeShapes Go.WideShapes Go.ChangeAt Go.RowKit
set_option linter.unusedVariables false

theorem zc_size (n : Nat) : (Builtin.zeroCells #[.int .i64 0, .int .i64 0, .int .i64 0] n).size = n * 3 := by simp [Builtin.zeroCells]
theorem infoA : ∃ i, Try.prog.info? 53 = some i ∧ i.zero = some (.agg #[.int .i64 0, .int .i64 0, .int .i64 0]) ∧ i.size = 3 ∧ i.bytes = 24 := by
  have h : (Try.prog.info? 53).map (fun i => (i.zero, i.size, i.bytes)) = some (some (.agg #[.int .i64 0, .int .i64 0, .int .i64 0]), 3, 24) := by kernel_rfl
  obtain ⟨i, hi, hz⟩ := Option.map_eq_some_iff.1 h
  simp only [Prod.mk.injEq] at hz
  exact ⟨i, hi, hz.1, hz.2.1, hz.2.2⟩
set_option maxHeartbeats 2000000 in
theorem grow_any (n : Nat) (w : World) (hn : n ≤ 1000) :
    Calls Try.prog 63 #[.slice none 0 0, .int .i64 (n : Int)] w fun e w' => ∃ v, e = .returned v ∧ Does (RA v []) none' w w' := by
  have t1 : ¬ (n : Int) < 0 := by omega
  rcases Nat.eq_zero_or_pos n with rfl | h0
  · go_enter Try.func63, Try.ntmps63
    go_wp2_with fail
    go_ret
    exact ⟨_, rfl, RT.new _ _ _⟩
  have t2 : (0 : Int) < (n : Int) := by omega
  obtain ⟨i, hi, hz, hs1, hb1⟩ := infoA
  have hrun := Lib.run_append_nil_zeros (P := Try.prog) w 28 3 28 53 i _ .i64 .i64 Try.underlying28 Try.underlying3 hi hz n h0 (by omega) (by omega) (by rw [hb1]; omega)
  have hge := grownCap_ge w n 0 53
  have hle := grownCap_le_maxLen w n 0 53 (by unfold maxLen; omega)
  generalize grownCap w n 0 53 = cap at hrun hge hle
  have HZ : Hid ((Builtin.zeroCells (Value.cells (.agg #[.int .i64 0, .int .i64 0, .int .i64 0])) n ++ Builtin.zeroCells (Value.cells (.agg #[.int .i64 0, .int .i64 0, .int .i64 0])) (cap - n)).size = cap * 3) := hide (by
    show (Builtin.zeroCells #[.int .i64 0, .int .i64 0, .int .i64 0] n ++ Builtin.zeroCells #[.int .i64 0, .int .i64 0, .int .i64 0] (cap - n)).size = _
    rw [Array.size_append, zc_size, zc_size]; omega)
  generalize (Builtin.zeroCells (Value.cells (.agg #[.int .i64 0, .int .i64 0, .int .i64 0])) n ++ Builtin.zeroCells (Value.cells (.agg #[.int .i64 0, .int .i64 0, .int .i64 0])) (cap - n)) = C at hrun HZ
  have HR := hide hrun
  have HD : Hid (Does (RA (.slice (some ⟨w.heap.size, 0, none⟩) 0 cap) []) none' w (w.drew.alloc (.cells C 53))) := hide (by
    refine ⟨fun k => k = w.heap.size, ⟨⟨by simp [fl], .inr ⟨w.heap.size, 0, cap, C, rfl, hp_new w.drew _, by simp, by unfold maxLen at hle; omega, by have := HZ.out; omega, fun i hi => by simp at hi⟩⟩, fun k => by simp [Value.ownBlock, eq_comm]⟩, (Fr.drew none' w).trans (Fr.alloc none' w.drew _) (fun _ _ x => x), fun k hk => .inr (by omega)⟩)
  clear hrun
  go_enter Try.func63, Try.ntmps63
  go_wp2_with (at_builtin; apply Hid.out)
  unfold Hid
  refine Lib.wpList_append_run w rfl _ _ 28 3 rfl (.slice none 0 0) (.int .i64 (n : Int)) rfl rfl _ _ HR.out ?_
  clear HR
  generalize (w.drew.alloc (.cells C 53)) = w2 at *
  generalize w.heap.size = gg at *
  go_wp2_with fail
  go_ret
  exact ⟨_, rfl, HD.out⟩
/-- Rows of acts in the cells of a block. -/
structure Sls (g : Nat) (l : List (Value × List Ac)) (w : World) : Prop where
  B : w.heap[g]? = some (.cells (l.map (·.1)).toArray 28 (0, 0))
  R : ∀ x ∈ l, Rw 53 3 w x.1 x.2.length (fl encA x.2)
theorem Sls.fr {g : Nat} {l : List (Value × List Ac)} {w w' : World} (h : Sls g l w) (F : Fr none' w w') : Sls g l w' := ⟨F.hd id h.B, fun x hx => (h.R x hx).fr F (fun _ _ y => y)⟩
def sumL (l : List (Value × List Ac)) : Nat := (l.flatMap (·.2)).length
theorem sumL_next {l : List (Value × List Ac)} {k : Nat} {x : Value × List Ac} (h : l[k]? = some x) : sumL (l.take (k + 1)) = sumL (l.take k) + x.2.length := by
  unfold sumL
  rw [take_next h, List.flatMap_append, List.length_append]
  simp
theorem sumL_le (l : List (Value × List Ac)) (k : Nat) : sumL (l.take k) ≤ sumL l := by
  unfold sumL
  conv => rhs; rw [← List.take_append_drop k l]
  rw [List.flatMap_append, List.length_append]
  omega
set_option maxHeartbeats 4000000 in
set_option maxRecDepth 100000 in
theorem concat_any (g m : Nat) (l : List (Value × List Ac)) (w : World) (h : Sls g l w) (hm : l.length = m) (hm3 : m ≤ 3) (hs : sumL l ≤ 1000) :
    Calls Try.prog 58 #[.slice (some ⟨g, 0, none⟩) m m] w fun e w' => ∃ v, e = .returned v ∧ Does (RA v (l.flatMap (·.2))) none' w w' := by
  have HH := hide h
  have HM := hide hm
  have HS := hide hs
  clear h hs hm
  go_enter Try.func58, Try.ntmps58
  go_wp2_with fail
  go_loop [3, 11] (fun s v => ∃ k : Nat, k ≤ m ∧ v = .int .i64 (k : Int) ∧ s = .int .i64 (sumL (l.take k) : Nat)) (fun _ v => m - (intOf v).toNat)
  case atStart => exact ⟨0, Nat.zero_le _, rfl, rfl⟩
  case round =>
    obtain ⟨k, hk, rfl, rfl⟩ := hrel
    by_cases hlt : k < m
    · have hkl : k < l.length := by rw [HM.out]; exact hlt
      have hr := get_ok hkl
      have HN := hide (sumL_next hr)
      have HL := sumL_le l k
      have HL2 := HS.out
      have hle := sumL_le l (k + 1)
      rw [HN.out] at hle
      obtain ⟨a, cap, e, hc0, hc1⟩ := (HH.out.R _ (List.getElem_mem hkl)).shape
      have c0 : w.cell? ⟨g, k, none⟩ = some (.slice a l[k].2.length cap) := by
        rw [← e, cell_of HH.out.B, List.getElem?_toArray, List.getElem?_map, hr]; rfl
      generalize l[k] = x at *
      generalize x.2.length = xn at *
      generalize sumL (l.take k) = sk at *
      have hneg : ¬ ((sk : Int) + (xn : Int) < 0) := by omega
      clear hr hkl e
      go_wp2_with fail
      go_round
      case rel => exact ⟨k + 1, by omega, by go_num, by rw [HN.out]; go_num⟩
      case measure => simp [intOf]; omega
    · obtain rfl : k = m := by omega
      have etk : l.take k = l := by rw [← HM.out]; exact List.take_length
      rw [etk]
      have HG := hide (grow_any (sumL l) w HS.out)
      obtain ⟨S, HSS⟩ : ∃ S, Hid (sumL l = S) := ⟨_, hide rfl⟩
      rw [HSS.out] at HG ⊢
      go_wp2_with fail
      refine HG.out.mono ?_
      rintro e w1 ⟨v, rfl, d⟩
      have T1 := hide d
      clear d HG
      go_wp2_with fail
      go_loopw [6, 27] (fun s v wr => ∃ j : Nat, j ≤ k ∧ v = .int .i64 (j : Int) ∧ Hid (Does (RA s ((l.take j).flatMap (·.2))) none' w wr)) (fun _ v _ => k - (intOf v).toNat)
      case atStart => exact ⟨0, Nat.zero_le _, rfl, T1⟩
      case round =>
        clear T1
        obtain ⟨j, hj, rfl, HI⟩ := hrel
        obtain ⟨sa, sc, rfl, hs0, hs1⟩ := HI.out.ri.shape
        by_cases hlt2 : j < k
        · have hkl : j < l.length := by rw [HM.out]; exact hlt2
          have hr := get_ok hkl
          have HN : Hid ((l.take (j + 1)).flatMap (·.2) = (l.take j).flatMap (·.2) ++ l[j].2) := hide (by rw [take_next hr, List.flatMap_append]; simp)
          have HSM : Hid (((l.take j).flatMap (·.2)).length + l[j].2.length ≤ 1000) := hide (by
            have := sumL_le l (j + 1)
            have h2 := sumL_next hr
            have h3 := HS.out
            rw [h2] at this
            change sumL (l.take j) + _ ≤ _
            omega)
          have HR2 := hide ((HH.out.fr HI.out.fr).R _ (List.getElem_mem hkl))
          obtain ⟨a, cap, e, hc0, hc1⟩ := HR2.out.shape
          have c0 : wr.cell? ⟨g, j, none⟩ = some (.slice a l[j].2.length cap) := by
            rw [← e, cell_of (HH.out.fr HI.out.fr).B, List.getElem?_toArray, List.getElem?_map, hr]; rfl
          have HR3 : Hid (Rw 53 3 wr (.slice a l[j].2.length cap) l[j].2.length (fl encA l[j].2)) := hide (by rw [← e]; exact HR2.out)
          generalize l[j] = x at *
          clear hr hkl e HR2
          obtain ⟨xn, Hxn⟩ : ∃ xn, Hid (x.2.length = xn) := ⟨_, hide rfl⟩
          obtain ⟨on, Hon⟩ : ∃ on, Hid (((l.take j).flatMap (·.2)).length = on) := ⟨_, hide rfl⟩
          have HS2 : Hid (Rw 53 3 wr (.slice sa on sc) on (fl encA ((l.take j).flatMap (·.2)))) := hide (by have := HI.out.ri; rw [Hon.out] at this; exact this)
          have HT := hide (fun (v' : Value) (w2 : World) (s : Rw 53 3 w2 v' ((l.take (j + 1)).flatMap (·.2)).length (fl encA ((l.take (j + 1)).flatMap (·.2)))) (F : Fr (fun k => (Value.slice sa on sc).ownBlock = some k) wr w2) (o : ∀ k, v'.ownBlock = some k → (Value.slice sa on sc).ownBlock = some k ∨ wr.heap.size ≤ k) => HI.out.trans (fun _ y => y.app s (by rw [Hon.out]; exact F) (by rw [Hon.out]; exact o)))
          rw [Hxn.out] at c0 hc0 HR3 HSM
          rw [Hon.out] at hs0 HSM ⊢
          have hsum := HSM.out
          clear HI HSM
          go_wp2_with (at_builtin; apply Hid.out)
          unfold Hid
          refine wpList_append_rwv infAct rfl _ _ rfl wr (.slice sa on sc) (.slice a xn cap) on xn _ _ rfl rfl HS2.out HR3.out (by omega) (by omega) ?_
          intro v' W6 q1 F o
          have T6 := hide (HT.out v' W6 (by rw [HN.out, List.length_append, Hxn.out, Hon.out, fl_app2]; exact q1) F o)
          clear q1 F o HS2 HR3 HT c0
          go_wp2_with fail
          go_roundw
          case rel => exact ⟨j + 1, by omega, by go_num, T6⟩
          case measure => simp [intOf]; omega
        · obtain rfl : j = k := by omega
          rw [etk] at HI ⊢
          generalize (l.flatMap (·.2)).length = on at *
          go_wp2_with fail
          go_ret
          exact ⟨_, rfl, by have := HI.out; exact this⟩
theorem gathered_any (g m : Nat) (l : List (Value × List Ac)) (w : World) (h : Sls g l w) (hm : l.length = m) (hm3 : m ≤ 3) (hs : sumL l ≤ 1000) :
    Calls Try.prog 44 #[.slice (some ⟨g, 0, none⟩) m m] w fun e w' => ∃ v, e = .returned v ∧ Does (RA v (l.flatMap (·.2))) none' w w' := by
  have HC := hide (concat_any g m l w h hm hm3 hs)
  clear h
  go_enter Try.func44, Try.ntmps44
  go_wp2_with fail
  refine HC.out.mono ?_
  rintro e w1 ⟨v, rfl, d⟩
  have HD := hide d
  clear d HC
  go_wp2_with fail
  go_ret
  exact ⟨_, rfl, HD.out⟩
end Go.Proofs.Ytjfpdenakgifgaa
