/- A name's values in one text: the program's, the document's. -/
import Derived.Test.YthbhkgdijoiceaaDoorFItems
namespace Go.Proofs.YthbhkgdijoiceaaDoor
open Go.ChangeShapes Go.WideShapes Go.ChangeAt Go.RowKit

def getS (V : List ByteArray) : ByteArray := sS (joinB (V.map fun x => x.data.toList))
theorem join_eq : ∀ L : List (List UInt8), Lib.join L [44, 32] = joinB L
  | [] => rfl
  | [x] => by rw [Lib.join_one]; rfl
  | x :: y :: r => by
    have h := join_eq (y :: r)
    rw [joinB, ← h]
    simp [Lib.join, List.intercalate, List.intersperse]
theorem joinB_len : ∀ (V : List ByteArray), (∀ x ∈ V, x.size ≤ 1048576) → (joinB (V.map fun x => x.data.toList)).length ≤ V.length * 1048578
  | [], _ => by simp [joinB]
  | [x], h => by
    have := h x (by simp)
    simp only [List.map_cons, List.map_nil, joinB, size_len, List.length_cons, List.length_nil]
    omega
  | x :: y :: r, h => by
    have h1 := joinB_len (y :: r) (fun z hz => h z (List.mem_cons_of_mem _ hz))
    have h2 := h x (by simp)
    simp only [List.map_cons, joinB, List.length_append, size_len, List.length_cons, List.length_nil] at h1 ⊢
    omega
theorem getS_size (V : List ByteArray) (h : ∀ x ∈ V, x.size ≤ 1048576) : (getS V).size ≤ V.length * 1048578 := by
  unfold getS
  rw [sS_size]
  exact joinB_len V h
theorem get_step (V : List ByteArray) (k : Nat) (h : k < V.length) (t x : ByteArray) (ht : t = getS (V.take k)) (hx : V[k] = x) : (if k = 0 then t ++ x else (t ++ ⟨#[44, 32]⟩) ++ x) = getS (V.take (k + 1)) := by
  have e : ∀ a b : ByteArray, a.data.toList = b.data.toList → a = b := by
    intro a b hab
    cases a; cases b
    simp only [ByteArray.mk.injEq]
    exact Array.toList_inj.1 hab
  apply e
  unfold getS
  rw [sS_list, take_snocF V k h, List.map_append, List.map_cons, List.map_nil, joinB_snoc]
  subst ht hx
  by_cases h0 : k = 0
  · subst h0
    simp [getS, sS_list, joinB]
  · have hn : (V.take k).map (fun x => x.data.toList) ≠ [] := by
      intro hh
      have := congrArg List.length hh
      rw [List.length_map, List.length_take] at this
      simp only [List.length_nil] at this
      omega
    rw [if_neg h0, if_neg hn, app_list, app_list]
    unfold getS
    rw [sS_list]
theorem join_any (g c : Nat) (V : List ByteArray) (w : World) (hc : ∀ (j : Nat) x, V[j]? = some x → w.cell? ⟨g, 0 + j, none⟩ = some (.string x)) (hg : g < w.heap.size) (hV : V.length ≤ 1048576) (hcap : V.length ≤ c) (hz : (joinB (V.map fun x => x.data.toList)).length ≤ V.length * 1048578) :
    Calls Tryd.prog 54 #[.slice (some ⟨g, 0, none⟩) V.length c, .string ⟨#[44, 32]⟩] w fun e w' => e = .returned (.string (getS V)) ∧ Below w.heap.size w w' := by
  have hj : Lib.join (V.map fun x => x.data.toList) (⟨#[44, 32]⟩ : ByteArray).data.toList = joinB (V.map fun x => x.data.toList) := join_eq _
  have h := Tryd.strings_Join g 0 c V ⟨#[44, 32]⟩ w hc hg (by omega) hcap (by rw [hj]; omega)
  rw [hj] at h
  exact h
set_option maxHeartbeats 1000000 in
theorem get_any (w : World) (l : Value) (A : List (ByteArray × ByteArray)) (n : ByteArray) (hA : Flds w l A) (hs : Sm A) (hn : n.size ≤ 1048576) :
    Calls Tryd.prog 39 #[l, .string n] w fun e w' => e = .returned (.tuple #[.string (getS (allS A n)), .bool (decide (0 < (allS A n).length))]) ∧ Below w.heap.size w w' := by
  have HAL := hide (all_any w l A n hA hs hn)
  have HVM := hide (fun x (hx : x ∈ allS A n) => allS_mem hs hx)
  have hVl := allS_le (n := n) hs
  clear hA hs hn
  generalize allS A n = V at HAL HVM hVl ⊢
  have HSZ := hide (joinB_len V HVM.out)
  by_cases h0 : V.length = 0
  · have hV0 : V = [] := List.eq_nil_of_length_eq_zero h0
    subst hV0
    clear h0 hVl
    go_enter Tryd.func39, Tryd.ntmps39
    go_wp2_with fail
    refine HAL.out.mono ?_
    rintro e w1 ⟨v1, rfl, hV, b1⟩
    obtain ⟨a1, c1, rfl, _, _⟩ := hV.shape
    have B1 := hide b1
    clear hV b1 HAL
    go_wp2_with fail
    refine (Tryd.strings_Join_none _ _ _ _).mono ?_
    rintro e w2 ⟨rfl, rfl⟩
    go_wp2
    go_ret2
    exact ⟨rfl, B1.out⟩
  · have hpos : 0 < V.length := by omega
    have td : decide (0 < V.length) = true := decide_eq_true hpos
    rw [td]
    have hpi : (0 : Int) < (V.length : Int) := by omega
    clear h0 td
    go_enter Tryd.func39, Tryd.ntmps39
    go_wp2_with fail
    refine HAL.out.mono ?_
    rintro e w1 ⟨v1, rfl, hV, b1⟩
    obtain ⟨a1, c1, rfl, hcv⟩ := Strs.of_row hV
    have hcap : V.length ≤ c1 := by
      obtain ⟨a2, c2, he, h2, _⟩ := hV.shape
      simp only [Value.slice.injEq] at he
      rw [sc_len] at h2
      rw [he.2.2]
      exact h2
    obtain ⟨g, rfl, hg, _⟩ := hcv 0 hpos
    have HC : Hid (∀ (j : Nat) x, V[j]? = some x → w1.cell? ⟨g, 0 + j, none⟩ = some (.string x)) := hide (fun j x hx => by
      obtain ⟨hj, rfl⟩ := List.getElem?_eq_some_iff.1 hx
      obtain ⟨g', hg', _, hc⟩ := hcv j hj
      simp only [Option.some.injEq, Addr.mk.injEq, and_true] at hg'
      rw [Nat.zero_add, hg']
      exact hc)
    have B1 := hide b1
    have HCP := hide hcap
    clear hV hcv b1 HAL hcap
    go_wp2_with fail
    refine (join_any g c1 V w1 HC.out hg hVl HCP.out HSZ.out).mono ?_
    rintro e w2 ⟨rfl, b2⟩
    go_wp2
    go_ret2
    exact ⟨rfl, B1.out.trans (b2.mono B1.out.size)⟩
set_option maxHeartbeats 1000000 in
theorem rget_any (w : World) (l : Value) (A : List (ByteArray × ByteArray)) (n : ByteArray) (hA : Flds w l A) (hs : Sm A) (hn : n.size ≤ 1048576) :
    Calls Tryd.prog 23 #[l, .string n] w fun e w' => e = .returned (.tuple #[.string (getS (allS A n)), .bool (decide (0 < (allS A n).length))]) ∧ Below w.heap.size w w' := by
  have HAL := hide (rall_any w l A n hA hs hn)
  have HVM := hide (fun x (hx : x ∈ allS A n) => allS_mem hs hx)
  have hVl := allS_le (n := n) hs
  clear hA hs hn
  generalize allS A n = V at HAL HVM hVl ⊢
  have HSZ := hide (fun k => getS_size (V.take k) (fun x hx => HVM.out x (List.mem_of_mem_take hx)))
  go_enter Tryd.func23, Tryd.ntmps23
  go_wp2_with fail
  refine HAL.out.mono ?_
  rintro e w1 ⟨v1, rfl, hV, b1⟩
  obtain ⟨a1, c1, rfl, hcv⟩ := Strs.of_row hV
  have HV := hide hcv
  have B1 := hide b1
  clear hV hcv b1 HAL
  go_wp2
  go_loop [15, 6] (fun i s => ∃ (k : Nat) (t : ByteArray), k ≤ V.length ∧ i = .int .i64 k ∧ s = .string t ∧ t.size ≤ 1099514257408 ∧ Hid (t = getS (V.take k))) (fun i _ => V.length - (intOf i).toNat)
  case atStart => exact ⟨0, ⟨#[]⟩, Nat.zero_le _, rfl, rfl, by decide, hide rfl⟩
  case round =>
    obtain ⟨k, t, hk, rfl, rfl, ht, HT⟩ := hrel
    by_cases hlt : k < V.length
    · obtain ⟨g1, rfl, hgl, r1⟩ := HV.out k hlt
      have hxs := HVM.out V[k] (List.getElem_mem hlt)
      have HNX := hide (fun x hx => get_step V k hlt t x HT.out hx)
      have hz2 := HSZ.out (k + 1)
      obtain ⟨x, hx⟩ : ∃ x, V[k] = x := ⟨_, rfl⟩
      rw [hx] at r1 hxs
      have HX := hide (HNX.out x hx)
      clear hx HNX hgl
      have hz3 : (getS (V.take (k + 1))).size ≤ 1099514257408 := by
        rw [List.length_take] at hz2
        have : min (k + 1) V.length ≤ 1048576 := by omega
        have := Nat.mul_le_mul_right 1048578 this
        omega
      have HZ3 := hide hz3
      clear hz2 hz3
      by_cases h0 : k = 0
      · have HX2 : Hid (t ++ x = getS (V.take (k + 1))) := hide (by rw [← HX.out, if_pos h0])
        have t0 : ¬ (0 : Int) < (k : Int) := by omega
        clear h0 HX
        go_wp2
        exact ⟨⟨k + 1, t ++ x, by omega, by go_num, rfl, by rw [HX2.out]; exact HZ3.out, HX2⟩, by simp [intOf]; omega⟩
      · have HX2 : Hid ((t ++ ⟨#[44, 32]⟩) ++ x = getS (V.take (k + 1))) := hide (by rw [← HX.out, if_neg h0])
        have t0 : (0 : Int) < (k : Int) := by omega
        clear h0 HX
        go_wp2
        exact ⟨⟨k + 1, (t ++ ⟨#[44, 32]⟩) ++ x, by omega, by go_num, rfl, by rw [HX2.out]; exact HZ3.out, HX2⟩, by simp [intOf]; omega⟩
    · have HE : Hid (t = getS V) := hide (by rw [HT.out, List.take_of_length_le (by omega)])
      by_cases h0 : V.length = 0
      · have t0 : ¬ (0 : Int) < (V.length : Int) := by omega
        have td : decide (0 < V.length) = false := decide_eq_false (by omega)
        have TD := hide td
        clear td
        clear h0
        go_wp2
        go_ret2
        exact ⟨by rw [HE.out, TD.out]; rfl, B1.out⟩
      · have t0 : (0 : Int) < (V.length : Int) := by omega
        have td : decide (0 < V.length) = true := decide_eq_true (by omega)
        have TD := hide td
        clear td
        clear h0
        go_wp2
        go_ret2
        exact ⟨by rw [HE.out, TD.out]; rfl, B1.out⟩
end Go.Proofs.YthbhkgdijoiceaaDoor
