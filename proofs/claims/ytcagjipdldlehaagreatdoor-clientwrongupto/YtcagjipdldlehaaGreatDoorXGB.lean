/- XGB: RLst FItems FGet FHas GPure GKeep GLen GTold GRTold GReq BRd CTake CGrow BTk BRe BFd BNew. -/
import Derived.Test.YtcagjipdldlehaaGreatDoorLst
import Derived.Test.YtcagjipdldlehaaGreatDoorFAll
import Derived.Test.YtcagjipdldlehaaGreatDoorAppK
import Derived.Test.YtcagjipdldlehaaGreatDoorNum
import Derived.Test.YtcagjipdldlehaaGreatDoorBlk
import Derived.Test.YtcagjipdldlehaaGreatDoorStp
import Derived.Test.YtcagjipdldlehaaGreatDoorBcl
import Derived.Handy
import Derived.Test.YtcagjipdldlehaaGreatDoorCPce
import Derived.Maps.AppendAt
import Derived.Lib.AppendZeros
import Derived.Deep.QuietTactic
import Derived.BigQuiet
/- The document's list of a text's elements. -/
namespace Go.Proofs.YtcagjipdldlehaaGreatDoor
open Go.ChangeShapes Go.WideShapes Go.ChangeAt Go.RowKit

theorem ext_one (s : ByteArray) (k : Nat) (h : k < s.size) : (s.extract k (k + 1)).data.toList = [s[k]] := by
  rw [ext_list, drop_cons s k h, show k + 1 - k = 1 by omega]
  rfl
theorem ext_one_size (s : ByteArray) (k : Nat) (h : k < s.size) : (s.extract k (k + 1)).size = 1 := by rw [ext_size]; omega
/-- What the pass still tells from the byte k on. -/
def rest (s : ByteArray) (t : ByteArray) (q sk : Bool) (k : Nat) : List ByteArray := (refL t.data.toList q sk (s.data.toList.drop k)).map sS
def elemS (t : ByteArray) : List ByteArray := if (trimS t).size = 0 then [] else [trimS t]
theorem elemS_eq (t : ByteArray) : (elem t.data.toList).map sS = elemS t := by
  unfold elemS elem
  rw [trimS_eq, sS_size]
  by_cases h0 : trimB t.data.toList = []
  · rw [if_pos h0, h0]; rfl
  · rw [if_neg h0, if_neg (by intro e; exact h0 (List.eq_nil_of_length_eq_zero e))]; rfl
theorem rest_end {s t : ByteArray} {q sk : Bool} {k : Nat} (h : s.size ≤ k) : rest s t q sk k = elemS t := by
  unfold rest
  rw [drop_end s k h, refL, elemS_eq]
theorem rest_cut {s t : ByteArray} {k : Nat} (h : k < s.size) (hc : s[k] = 44) : rest s t false false k = elemS t ++ rest s ⟨#[]⟩ false false (k + 1) := by
  unfold rest
  rw [drop_cons s k h, refL, if_pos ⟨hc, rfl⟩, List.map_append, elemS_eq]
theorem rest_next {s t : ByteArray} {q sk : Bool} {k : Nat} (h : k < s.size) (hc : ¬ (s[k] = 44 ∧ q = false)) {q' sk' : Bool} (hn : nx q sk s[k] = (q', sk')) : rest s t q sk k = rest s (t ++ s.extract k (k + 1)) q' sk' (k + 1) := by
  unfold rest
  rw [drop_cons s k h, refL, if_neg hc, hn, app_list, ext_one s k h]
theorem slice_one (s : ByteArray) (k : Nat) (h : k < s.size) (W : World) : (Instr.slice 9 (.string s) (some (.int .i64 (k : Int))) (some (.int .i64 ((k : Int) + 1))) none).run Tryz.prog W = .ok (.string (s.extract k (k + 1))) W := by
  rw [run_slice_string (P := Tryz.prog) W 9 s .i64 .i64 k (k + 1) Tryz.underlying9 (by omega) (by omega) (by omega)]
  rfl
theorem elemS_len (t : ByteArray) : (elemS t).length ≤ 1 := by unfold elemS; split <;> simp

set_option maxHeartbeats 2000000 in
theorem rlist_any (s : ByteArray) (w : World) (hs : s.size ≤ 1099511627776) :
    Calls Tryz.prog 106 #[.string s] w fun e w' => ∃ v, e = .returned v ∧ Row w' w.heap.size 9 v (sc (listS s.data.toList)) ∧ Below w.heap.size w w' := by
  have HL := hide (listS_len s.data.toList)
  have H0 : Hid (listS s.data.toList = [] ++ rest s ⟨#[]⟩ false false 0) := hide (by
    unfold rest listS
    rw [List.drop_zero, List.nil_append, ← refL_list])
  obtain ⟨L, hL⟩ : ∃ L, listS s.data.toList = L := ⟨_, rfl⟩
  rw [hL] at HL H0 ⊢
  rw [size_len] at HL
  clear hL
  go_enter Tryz.func106, Tryz.ntmps106
  go_wp2
  go_loopw [3, 4, 5, 6, 7] (fun v x b5 b6 i wr => ∃ (k : Nat) (q sk : Bool) (O : List ByteArray) (t : ByteArray), x = .string t ∧ b5 = .bool q ∧ b6 = .bool sk ∧ i = .int .i64 k ∧ k ≤ s.size + 1 ∧ t.size ≤ k ∧ Hid (sk = true → q = true) ∧ Hid (k ≤ s.size → L = O ++ rest s t q sk k) ∧ Hid (s.size < k → L = O) ∧ Hid (Row wr w.heap.size 9 v (sc O)) ∧ Hid (Below w.heap.size w wr)) (fun _ _ _ _ i _ => s.size + 1 - (intOf i).toNat)
  case atStart => exact ⟨0, false, false, [], ⟨#[]⟩, rfl, rfl, rfl, rfl, by omega, by show 0 ≤ _; omega, hide (by simp), hide (fun _ => H0.out), hide (by omega), hide (Row.nil _ _ _), hide (Below.refl _ _)⟩
  case round =>
    obtain ⟨k, q, sk, O, t, rfl, rfl, rfl, rfl, hk, ht, HK, H1, H2, HR, HB⟩ := hrel
    obtain ⟨a, c, rfl, _, _⟩ := HR.out.shape
    rw [sc_len] at *
    by_cases hend : k ≤ s.size
    · have HN := hide (H1.out hend)
      clear H1 H2
      have hO : O.length ≤ s.size := by
        have := HL.out
        rw [HN.out, List.length_append] at this
        omega
      have htm : t.size ≤ maxLen := by unfold maxLen; omega
      by_cases hlt : k < s.size
      · have tend : (((k : Int)) == (s.size : Int)) = false := beq_eq_false_iff_ne.2 (by omega)
        have hez := ext_one_size s k hlt
        have hsl := fun W => slice_one s k hlt W
        have hb := byte_lt s[k]
        have HZ := hide (app_size t (s.extract k (k + 1)))
        by_cases h44 : s[k].toNat = 44
        · have t44 : (((s[k].toNat : Int)) == 44) = true := beq_iff_eq.2 (by omega)
          have t92 : (((s[k].toNat : Int)) == 92) = false := beq_eq_false_iff_ne.2 (by omega)
          have t34 : (((s[k].toNat : Int)) == 34) = false := beq_eq_false_iff_ne.2 (by omega)
          have e44 := byte_is (n := 44) h44 (by decide)
          have E44 := hide e44
          clear e44
          cases q with
          | true =>
            cases sk with
            | true =>
              have HF := hide (HN.out.trans (congrArg (O ++ ·) (rest_next (q := true) (sk := true) (q' := true) (sk' := false) hlt (by simp) (by simp [nx]))))
              go_wp2
              exact ⟨⟨k + 1, true, false, O, _, rfl, rfl, rfl, by go_num, by omega, by rw [HZ.out]; omega, hide (by simp), hide (fun _ => HF.out), hide (by omega), HR, HB⟩, by simp [intOf]; omega⟩
            | false =>
              have HF := hide (HN.out.trans (congrArg (O ++ ·) (rest_next (q := true) (sk := false) (q' := true) (sk' := false) hlt (by simp) (by simp [nx, E44.out]))))
              go_wp2
              exact ⟨⟨k + 1, true, false, O, _, rfl, rfl, rfl, by go_num, by omega, by rw [HZ.out]; omega, hide (by simp), hide (fun _ => HF.out), hide (by omega), HR, HB⟩, by simp [intOf]; omega⟩
          | false =>
            cases sk with
            | true => exact absurd (HK.out rfl) (by simp)
            | false =>
              have HT := hide (fun w => rtrim_any t w htm)
              have HC : Hid (L = O ++ ((if (trimS t).size = 0 then [] else [trimS t]) ++ rest s ⟨#[]⟩ false false (k + 1))) := hide (HN.out.trans (congrArg (O ++ ·) (rest_cut hlt E44.out)))
              generalize trimS t = x at HT HC
              by_cases hx : x.size = 0
              · have hxe : x.toList.isEmpty = true := by rw [Lib.toList_data, isEmpty_size]; exact decide_eq_true hx
                have HC2 := hide (show L = O ++ rest s ⟨#[]⟩ false false (k + 1) by rw [HC.out, if_pos hx]; rfl)
                go_wp2_with (go_at_call 103; refine (HT.out _).mono ?_; rintro e w' ⟨rfl, rfl⟩)
                exact ⟨⟨k + 1, false, false, O, ⟨#[]⟩, rfl, rfl, rfl, by go_num, by omega, by show 0 ≤ _; omega, HK, hide (fun _ => HC2.out), hide (by omega), HR, HB⟩, by simp [intOf]; omega⟩
              · have hxe : x.toList.isEmpty = false := by rw [Lib.toList_data, isEmpty_size]; exact decide_eq_false hx
                have HC2 := hide (show L = (O ++ [x]) ++ rest s ⟨#[]⟩ false false (k + 1) by rw [HC.out, if_neg hx]; simp)
                go_wp2_with (first | (go_at_call 103; refine (HT.out _).mono ?_; rintro e w' ⟨rfl, rfl⟩) | (at_builtin; apply Hid.out))
                unfold Hid
                refine wpList_append_one elS rfl _ _ rfl wr w.heap.size (.slice a O.length c) (sc O) (.string x) rfl rfl HR.out rfl (by rw [sc_len]; omega) (by rw [sc_len]; omega) HB.out.size ?_
                intro v' w2 O' B'
                have O2 := hide O'
                have B2 := hide (HB.out.trans B')
                clear O' B'
                go_wp2
                exact ⟨⟨k + 1, false, false, O ++ [x], ⟨#[]⟩, rfl, rfl, rfl, by go_num, by omega, by show 0 ≤ _; omega, HK, hide (fun _ => HC2.out), hide (by omega), hide (by rw [sc_snoc]; exact O2.out), B2⟩, by simp [intOf]; omega⟩
        · have t44 : (((s[k].toNat : Int)) == 44) = false := beq_eq_false_iff_ne.2 (by omega)
          have n44 := hide (byte_ne (n := 44) h44 (by decide))
          by_cases h92 : s[k].toNat = 92
          · have t92 : (((s[k].toNat : Int)) == 92) = true := beq_iff_eq.2 (by omega)
            have t34 : (((s[k].toNat : Int)) == 34) = false := beq_eq_false_iff_ne.2 (by omega)
            have E92 := hide (byte_is (n := 92) h92 (by decide))
            cases q with
            | true =>
              cases sk with
              | true =>
                have HF := hide (HN.out.trans (congrArg (O ++ ·) (rest_next (q := true) (sk := true) (q' := true) (sk' := false) hlt (fun x => n44.out x.1) (by simp [nx]))))
                go_wp2
                exact ⟨⟨k + 1, true, false, O, _, rfl, rfl, rfl, by go_num, by omega, by rw [HZ.out]; omega, hide (by simp), hide (fun _ => HF.out), hide (by omega), HR, HB⟩, by simp [intOf]; omega⟩
              | false =>
                have HF := hide (HN.out.trans (congrArg (O ++ ·) (rest_next (q := true) (sk := false) (q' := true) (sk' := true) hlt (fun x => n44.out x.1) (by simp [nx, E92.out]))))
                go_wp2
                exact ⟨⟨k + 1, true, true, O, _, rfl, rfl, rfl, by go_num, by omega, by rw [HZ.out]; omega, hide (by simp), hide (fun _ => HF.out), hide (by omega), HR, HB⟩, by simp [intOf]; omega⟩
            | false =>
              cases sk with
              | true => exact absurd (HK.out rfl) (by simp)
              | false =>
                have HF := hide (HN.out.trans (congrArg (O ++ ·) (rest_next (q := false) (sk := false) (q' := false) (sk' := false) hlt (fun x => n44.out x.1) (by simp [nx, E92.out]))))
                go_wp2
                exact ⟨⟨k + 1, false, false, O, _, rfl, rfl, rfl, by go_num, by omega, by rw [HZ.out]; omega, hide (by simp), hide (fun _ => HF.out), hide (by omega), HR, HB⟩, by simp [intOf]; omega⟩
          · have t92 : (((s[k].toNat : Int)) == 92) = false := beq_eq_false_iff_ne.2 (by omega)
            have n92 := hide (byte_ne (n := 92) h92 (by decide))
            by_cases h34 : s[k].toNat = 34
            · have t34 : (((s[k].toNat : Int)) == 34) = true := beq_iff_eq.2 (by omega)
              have E34 := hide (byte_is (n := 34) h34 (by decide))
              cases q with
              | true =>
                cases sk with
                | true =>
                  have HF := hide (HN.out.trans (congrArg (O ++ ·) (rest_next (q := true) (sk := true) (q' := true) (sk' := false) hlt (fun x => n44.out x.1) (by simp [nx]))))
                  go_wp2
                  exact ⟨⟨k + 1, true, false, O, _, rfl, rfl, rfl, by go_num, by omega, by rw [HZ.out]; omega, hide (by simp), hide (fun _ => HF.out), hide (by omega), HR, HB⟩, by simp [intOf]; omega⟩
                | false =>
                  have HF := hide (HN.out.trans (congrArg (O ++ ·) (rest_next (q := true) (sk := false) (q' := false) (sk' := false) hlt (fun x => n44.out x.1) (by simp [nx, E34.out]))))
                  go_wp2
                  exact ⟨⟨k + 1, false, false, O, _, rfl, rfl, rfl, by go_num, by omega, by rw [HZ.out]; omega, hide (by simp), hide (fun _ => HF.out), hide (by omega), HR, HB⟩, by simp [intOf]; omega⟩
              | false =>
                cases sk with
                | true => exact absurd (HK.out rfl) (by simp)
                | false =>
                  have HF := hide (HN.out.trans (congrArg (O ++ ·) (rest_next (q := false) (sk := false) (q' := true) (sk' := false) hlt (fun x => n44.out x.1) (by simp [nx, E34.out]))))
                  go_wp2
                  exact ⟨⟨k + 1, true, false, O, _, rfl, rfl, rfl, by go_num, by omega, by rw [HZ.out]; omega, hide (by simp), hide (fun _ => HF.out), hide (by omega), HR, HB⟩, by simp [intOf]; omega⟩
            · have t34 : (((s[k].toNat : Int)) == 34) = false := beq_eq_false_iff_ne.2 (by omega)
              have n34 := hide (byte_ne (n := 34) h34 (by decide))
              have HX : nx q false s[k] = (q, false) := by
                unfold nx
                rw [if_neg (by simp), if_neg (fun x => n92.out x.1), if_neg (show ¬ s[k] = 34 from n34.out)]
              have HX2 := hide HX
              clear HX
              cases sk with
              | true =>
                cases q with
                | false => exact absurd (HK.out rfl) (by simp)
                | true =>
                  have HF := hide (HN.out.trans (congrArg (O ++ ·) (rest_next (q := true) (sk := true) (q' := true) (sk' := false) hlt (fun x => n44.out x.1) (by simp [nx]))))
                  go_wp2
                  exact ⟨⟨k + 1, true, false, O, _, rfl, rfl, rfl, by go_num, by omega, by rw [HZ.out]; omega, hide (by simp), hide (fun _ => HF.out), hide (by omega), HR, HB⟩, by simp [intOf]; omega⟩
              | false =>
                have HF := hide (HN.out.trans (congrArg (O ++ ·) (rest_next (q := q) (sk := false) (q' := q) (sk' := false) hlt (fun x => n44.out x.1) (by exact HX2.out))))
                go_wp2
                exact ⟨⟨k + 1, q, false, O, _, rfl, rfl, rfl, by go_num, by omega, by rw [HZ.out]; omega, hide (by simp), hide (fun _ => HF.out), hide (by omega), HR, HB⟩, by simp [intOf]; omega⟩
      · have e : k = s.size := by omega
        subst e
        have tend : (((s.size : Int)) == (s.size : Int)) = true := beq_self_eq_true _
        have HT := hide (fun w => rtrim_any t w htm)
        have HC : Hid (L = O ++ (if (trimS t).size = 0 then [] else [trimS t])) := hide (HN.out.trans (congrArg (O ++ ·) (rest_end (Nat.le_refl _))))
        generalize trimS t = x at HT HC
        by_cases hx : x.size = 0
        · have hxe : x.toList.isEmpty = true := by rw [Lib.toList_data, isEmpty_size]; exact decide_eq_true hx
          have HC2 := hide (show L = O by rw [HC.out, if_pos hx]; simp)
          go_wp2_with (go_at_call 103; refine (HT.out _).mono ?_; rintro e w' ⟨rfl, rfl⟩)
          exact ⟨⟨s.size + 1, q, sk, O, ⟨#[]⟩, rfl, rfl, rfl, by go_num, by omega, by show 0 ≤ _; omega, HK, hide (by omega), hide (fun _ => HC2.out), HR, HB⟩, by simp [intOf]⟩
        · have hxe : x.toList.isEmpty = false := by rw [Lib.toList_data, isEmpty_size]; exact decide_eq_false hx
          have HC2 := hide (show L = O ++ [x] by rw [HC.out, if_neg hx])
          go_wp2_with (first | (go_at_call 103; refine (HT.out _).mono ?_; rintro e w' ⟨rfl, rfl⟩) | (at_builtin; apply Hid.out))
          unfold Hid
          refine wpList_append_one elS rfl _ _ rfl wr w.heap.size (.slice a O.length c) (sc O) (.string x) rfl rfl HR.out rfl (by rw [sc_len]; omega) (by rw [sc_len]; omega) HB.out.size ?_
          intro v' w2 O' B'
          have O2 := hide O'
          have B2 := hide (HB.out.trans B')
          clear O' B'
          go_wp2
          exact ⟨⟨s.size + 1, q, sk, O ++ [x], ⟨#[]⟩, rfl, rfl, rfl, by go_num, by omega, by show 0 ≤ _; omega, HK, hide (by omega), hide (fun _ => HC2.out), hide (by rw [sc_snoc]; exact O2.out), B2⟩, by simp [intOf]⟩
    · have HE := hide (H2.out (by omega))
      go_wp2
      go_ret
      exact ⟨_, rfl, by rw [HE.out]; exact HR.out, HB.out⟩
end Go.Proofs.YtcagjipdldlehaaGreatDoor
/- The elements of a name: the program's, the document's. -/
namespace Go.Proofs.YtcagjipdldlehaaGreatDoor
open Go.ChangeShapes Go.WideShapes Go.ChangeAt Go.RowKit

theorem elem_mem {p x : List UInt8} (h : x ∈ elem p) : x.length ≤ p.length := by
  unfold elem at h
  split at h
  · cases h
  · simp at h; subst h; exact trimB_le p
theorem listB_mem (l : List UInt8) : ∀ x ∈ listB l, x.length ≤ l.length := by
  induction h : l.length using Nat.strongRecOn generalizing l with
  | ind n ih =>
    intro x hx
    by_cases h0 : l = []
    · subst h0; rw [listB_nil] at hx; cases hx
    · have hp : 0 < l.length := List.length_pos_iff.2 h0
      rw [listB_cons h0] at hx
      rcases List.mem_append.1 hx with hx | hx
      · have := elem_mem hx
        rw [List.length_take] at this
        omega
      · have := ih _ (by rw [List.length_drop]; omega) (l.drop (pend false false l + 1)) rfl x hx
        rw [List.length_drop] at this
        omega

/-- A value's elements, in small letters. -/
def smallS (v : ByteArray) : List ByteArray := (listS v.data.toList).map lowS
def itemsV (V : List ByteArray) : List ByteArray := V.flatMap smallS
def itemsS (A : List (ByteArray × ByteArray)) (n : ByteArray) : List ByteArray := itemsV (allS A n)
theorem itemsV_snoc (V : List ByteArray) (k : Nat) (hk : k < V.length) (x : ByteArray) (hx : V[k] = x) : itemsV (V.take (k + 1)) = itemsV (V.take k) ++ smallS x := by
  rw [take_snocF V k hk, hx]
  simp [itemsV]
theorem smallS_len (v : ByteArray) : (smallS v).length ≤ v.size := by
  unfold smallS
  rw [List.length_map, ← size_len]
  exact listS_len _
theorem smallS_mem {v x : ByteArray} (h : x ∈ smallS v) : x.size ≤ v.size := by
  unfold smallS listS at h
  simp only [List.mem_map] at h
  obtain ⟨_, ⟨y, hy, rfl⟩, rfl⟩ := h
  have := listB_mem _ y hy
  rw [size_len] at this
  rw [lowS_size, sS_size]
  exact this
theorem listS_mem {v x : ByteArray} (h : x ∈ listS v.data.toList) : x.size ≤ v.size := by
  unfold listS at h
  simp only [List.mem_map] at h
  obtain ⟨y, hy, rfl⟩ := h
  have := listB_mem _ y hy
  rw [size_len] at this
  rw [sS_size]
  exact this
theorem allS_mem {A : List (ByteArray × ByteArray)} {n x : ByteArray} (hs : Sm A) (h : x ∈ allS A n) : x.size ≤ 1048576 := by
  unfold allS at h
  simp only [List.mem_map, List.mem_filter] at h
  obtain ⟨f, ⟨h1, _⟩, rfl⟩ := h
  exact (hs.2 f h1).2
theorem allS_le {A : List (ByteArray × ByteArray)} {n : ByteArray} (hs : Sm A) : (allS A n).length ≤ 1048576 := by
  unfold allS
  rw [List.length_map]
  exact Nat.le_trans (List.length_filter_le _ _) hs.1
theorem itemsV_len (V : List ByteArray) (hV : ∀ x ∈ V, x.size ≤ 1048576) : (itemsV V).length ≤ V.length * 1048576 := by
  induction V with
  | nil => simp [itemsV]
  | cons a r ih =>
    have h1 := ih (fun x hx => hV x (List.mem_cons_of_mem _ hx))
    have h2 := smallS_len a
    have h3 := hV a (List.mem_cons_self ..)
    simp only [itemsV, List.flatMap_cons, List.length_append, List.length_cons] at h1 ⊢
    omega
theorem itemsV_mem (V : List ByteArray) (hV : ∀ x ∈ V, x.size ≤ 1048576) : ∀ x ∈ itemsV V, x.size ≤ 1048576 := by
  intro x hx
  unfold itemsV at hx
  simp only [List.mem_flatMap] at hx
  obtain ⟨v, hv, hx⟩ := hx
  exact Nat.le_trans (smallS_mem hx) (hV v hv)
set_option maxHeartbeats 2000000 in
theorem items_any (w : World) (l : Value) (A : List (ByteArray × ByteArray)) (n : ByteArray) (hA : Flds w l A) (hs : Sm A) (hn : n.size ≤ 1048576) :
    Calls Tryz.prog 155 #[l, .string n] w fun e w' => ∃ v, e = .returned v ∧ Row w' w.heap.size 9 v (sc (itemsS A n)) ∧ Below w.heap.size w w' := by
  have HAL := hide (all_any w l A n hA hs hn)
  have HVM := hide (fun x (hx : x ∈ allS A n) => allS_mem hs hx)
  have hVl := allS_le (n := n) hs
  unfold itemsS
  obtain ⟨a0, c0, rfl, hc0, hcells⟩ := hA
  clear hcells hs hn hc0
  generalize allS A n = V at HAL HVM hVl ⊢
  go_enter Tryz.func155, Tryz.ntmps155
  go_wp2_with fail
  refine HAL.out.mono ?_
  rintro e w1 ⟨v1, rfl, hV, b1⟩
  obtain ⟨a1, c1, rfl, hcv⟩ := Strs.of_row hV
  clear hV
  have HV := hide hcv
  have B1 := hide b1
  clear hcv b1 HAL
  go_wp2
  go_loopw [14, 5] (fun i v wr => ∃ (k : Nat) (O : List ByteArray), k ≤ V.length ∧ i = .int .i64 k ∧ O.length ≤ k * 1048576 ∧ Hid (itemsV (V.take k) = O) ∧ Hid (Row wr w1.heap.size 9 v (sc O)) ∧ Hid (Below w1.heap.size w1 wr)) (fun i _ _ => V.length - (intOf i).toNat)
  case atStart => exact ⟨0, [], Nat.zero_le _, rfl, Nat.zero_le _, hide rfl, hide (Row.nil _ _ _), hide (Below.refl _ _)⟩
  case round =>
    obtain ⟨k, O, hk, rfl, hO, HO, HR, HB⟩ := hrel
    obtain ⟨a6, c6, rfl, _, _⟩ := HR.out.shape
    rw [sc_len] at *
    by_cases hlt : k < V.length
    · obtain ⟨g1, rfl, hgl, q1⟩ := HV.out k hlt
      have hxs := HVM.out V[k] (List.getElem_mem hlt)
      have HNX := hide (fun x hx => itemsV_snoc V k hlt x hx)
      obtain ⟨x, hx⟩ : ∃ x, V[k] = x := ⟨_, rfl⟩
      rw [hx] at q1 hxs
      have HX := hide (HNX.out x hx)
      clear hx HNX
      have r1 : wr.cell? ⟨g1, k, none⟩ = some (.string x) := (HB.out.cell (p := ⟨g1, k, none⟩) hgl).trans q1
      clear q1 hgl
      go_wp2_with fail
      refine (list_any x wr (by omega)).mono ?_
      rintro e w2 ⟨v2, rfl, hP, b2⟩
      have hPl : (listS x.data.toList).length ≤ x.size := by rw [← size_len]; exact listS_len _
      have HPM := hide (fun y (hy : y ∈ listS x.data.toList) => listS_mem hy)
      have HAP : Hid (∀ g, v2.ownBlock = some g → g < w2.heap.size ∧ (Value.slice a6 O.length c6).ownBlock ≠ some g) := hide (fun g hg => ⟨(hP.lt hg).2, fun h => by
        have h1 := (hP.lt hg).1
        have h2 := (HR.out.lt h).2
        omega⟩)
      have HR2 := hide (HR.out.below b2)
      have HB2 := hide (HB.out.trans (b2.mono HB.out.size))
      have HX2 : Hid (itemsV (V.take (k + 1)) = O ++ ((listS x.data.toList)).map lowS) := hide (by rw [HX.out, HO.out]; rfl)
      clear HX r1 HR HB b2
      generalize listS x.data.toList = P at hP hPl HPM HX2
      have HS2 := Strs.of_row hP
      clear hP
      obtain ⟨a2, c2, rfl, hc2⟩ := HS2
      have HC2 := hide hc2
      clear hc2
      go_wp2
      go_loopw [21, 5] (fun j v wq => ∃ (m : Nat) (O2 : List ByteArray), m ≤ P.length ∧ j = .int .i64 m ∧ O2.length ≤ O.length + m ∧ Hid (O2 = O ++ (P.take m).map lowS) ∧ Hid (Row wq w1.heap.size 9 v (sc O2)) ∧ Hid (Below w1.heap.size w1 wq) ∧ Hid (Kept w2 wq (.slice a6 O.length c6) v)) (fun j _ _ => P.length - (intOf j).toNat)
      case atStart => exact ⟨0, O, Nat.zero_le _, rfl, Nat.le_refl _, hide (by simp), HR2, HB2, hide (Kept.refl _ _)⟩
      case round =>
        obtain ⟨m, O2, hm, rfl, hO2, HO2, HRq, HBq, HKq⟩ := hrel
        obtain ⟨a7, c7, rfl, _, _⟩ := HRq.out.shape
        rw [sc_len] at *
        by_cases hlm : m < P.length
        · obtain ⟨g2, rfl, hg2, q2⟩ := HC2.out m hlm
          have hys := Nat.le_trans (HPM.out P[m] (List.getElem_mem hlm)) hxs
          have HTK := hide (take_snocF P m hlm)
          obtain ⟨y, hy⟩ : ∃ y, P[m] = y := ⟨_, rfl⟩
          rw [hy] at q2 hys HTK
          clear hy
          have hap := HAP.out g2 rfl
          have r2 : wr.cell? ⟨g2, m, none⟩ = some (.string y) := (HKq.out.cell hap.1 hap.2).trans q2
          clear q2 hap hg2
          go_wp2_with fail
          refine (lower_any y wr (by unfold maxLen; omega)).mono ?_
          rintro e w3 ⟨rfl, b3⟩
          have HO3 : Hid (O2 ++ [lowS y] = O ++ (P.take (m + 1)).map lowS) := hide (by rw [HO2.out, HTK.out]; simp)
          generalize lowS y = ly at HO3 ⊢
          have HR3 := hide (HRq.out.below b3)
          have HB3 := hide (HBq.out.trans (b3.mono HBq.out.size))
          have HK3 := hide (HKq.out.below b3)
          clear HRq HBq HKq b3 HTK
          go_wp2_with (at_builtin; apply Hid.out)
          unfold Hid
          refine wpList_append_one_k elS rfl _ _ rfl w3 w1.heap.size (.slice a7 O2.length c7) (sc O2) (.string ly) rfl rfl HR3.out rfl (by rw [sc_len]; omega) (by rw [sc_len]; omega) HB3.out.size ?_
          intro v' w4 O' B' K'
          have O5 := hide O'
          have B5 := hide (HB3.out.trans B')
          have K5 := hide (HK3.out.trans K')
          clear O' B' K'
          go_wp2
          exact ⟨⟨m + 1, O2 ++ [ly], by omega, by go_num, by rw [List.length_append]; simp; omega, HO3, hide (by rw [sc_snoc]; exact O5.out), B5, K5⟩, by simp [intOf]; omega⟩
        · have HO4 : Hid (itemsV (V.take (k + 1)) = O2) := hide (by rw [HX2.out, HO2.out, List.take_of_length_le (by omega)])
          go_wp2
          exact ⟨⟨k + 1, O2, by omega, by go_num, by omega, HO4, HRq, HBq⟩, by simp [intOf]; omega⟩
    · have HE : Hid (itemsV V = O) := hide (by rw [← HO.out, List.take_of_length_le (by omega)])
      go_wp2
      go_ret
      exact ⟨_, rfl, by rw [HE.out]; exact HR.out.lower B1.out.size, B1.out.trans (HB.out.mono B1.out.size)⟩
set_option maxHeartbeats 2000000 in
theorem ritems_any (w : World) (l : Value) (A : List (ByteArray × ByteArray)) (n : ByteArray) (hA : Flds w l A) (hs : Sm A) (hn : n.size ≤ 1048576) :
    Calls Tryz.prog 69 #[l, .string n] w fun e w' => ∃ v, e = .returned v ∧ Row w' w.heap.size 9 v (sc (itemsS A n)) ∧ Below w.heap.size w w' := by
  have HAL := hide (rall_any w l A n hA hs hn)
  have HVM := hide (fun x (hx : x ∈ allS A n) => allS_mem hs hx)
  have hVl := allS_le (n := n) hs
  unfold itemsS
  obtain ⟨a0, c0, rfl, hc0, hcells⟩ := hA
  clear hcells hs hn hc0
  generalize allS A n = V at HAL HVM hVl ⊢
  go_enter Tryz.func69, Tryz.ntmps69
  go_wp2_with fail
  refine HAL.out.mono ?_
  rintro e w1 ⟨v1, rfl, hV, b1⟩
  obtain ⟨a1, c1, rfl, hcv⟩ := Strs.of_row hV
  clear hV
  have HV := hide hcv
  have B1 := hide b1
  clear hcv b1 HAL
  go_wp2
  go_loopw [14, 5] (fun i v wr => ∃ (k : Nat) (O : List ByteArray), k ≤ V.length ∧ i = .int .i64 k ∧ O.length ≤ k * 1048576 ∧ Hid (itemsV (V.take k) = O) ∧ Hid (Row wr w1.heap.size 9 v (sc O)) ∧ Hid (Below w1.heap.size w1 wr)) (fun i _ _ => V.length - (intOf i).toNat)
  case atStart => exact ⟨0, [], Nat.zero_le _, rfl, Nat.zero_le _, hide rfl, hide (Row.nil _ _ _), hide (Below.refl _ _)⟩
  case round =>
    obtain ⟨k, O, hk, rfl, hO, HO, HR, HB⟩ := hrel
    obtain ⟨a6, c6, rfl, _, _⟩ := HR.out.shape
    rw [sc_len] at *
    by_cases hlt : k < V.length
    · obtain ⟨g1, rfl, hgl, q1⟩ := HV.out k hlt
      have hxs := HVM.out V[k] (List.getElem_mem hlt)
      have HNX := hide (fun x hx => itemsV_snoc V k hlt x hx)
      obtain ⟨x, hx⟩ : ∃ x, V[k] = x := ⟨_, rfl⟩
      rw [hx] at q1 hxs
      have HX := hide (HNX.out x hx)
      clear hx HNX
      have r1 : wr.cell? ⟨g1, k, none⟩ = some (.string x) := (HB.out.cell (p := ⟨g1, k, none⟩) hgl).trans q1
      clear q1 hgl
      go_wp2_with fail
      refine (rlist_any x wr (by omega)).mono ?_
      rintro e w2 ⟨v2, rfl, hP, b2⟩
      have hPl : (listS x.data.toList).length ≤ x.size := by rw [← size_len]; exact listS_len _
      have HPM := hide (fun y (hy : y ∈ listS x.data.toList) => listS_mem hy)
      have HAP : Hid (∀ g, v2.ownBlock = some g → g < w2.heap.size ∧ (Value.slice a6 O.length c6).ownBlock ≠ some g) := hide (fun g hg => ⟨(hP.lt hg).2, fun h => by
        have h1 := (hP.lt hg).1
        have h2 := (HR.out.lt h).2
        omega⟩)
      have HR2 := hide (HR.out.below b2)
      have HB2 := hide (HB.out.trans (b2.mono HB.out.size))
      have HX2 : Hid (itemsV (V.take (k + 1)) = O ++ ((listS x.data.toList)).map lowS) := hide (by rw [HX.out, HO.out]; rfl)
      clear HX r1 HR HB b2
      generalize listS x.data.toList = P at hP hPl HPM HX2
      have HS2 := Strs.of_row hP
      clear hP
      obtain ⟨a2, c2, rfl, hc2⟩ := HS2
      have HC2 := hide hc2
      clear hc2
      go_wp2
      go_loopw [21, 5] (fun j v wq => ∃ (m : Nat) (O2 : List ByteArray), m ≤ P.length ∧ j = .int .i64 m ∧ O2.length ≤ O.length + m ∧ Hid (O2 = O ++ (P.take m).map lowS) ∧ Hid (Row wq w1.heap.size 9 v (sc O2)) ∧ Hid (Below w1.heap.size w1 wq) ∧ Hid (Kept w2 wq (.slice a6 O.length c6) v)) (fun j _ _ => P.length - (intOf j).toNat)
      case atStart => exact ⟨0, O, Nat.zero_le _, rfl, Nat.le_refl _, hide (by simp), HR2, HB2, hide (Kept.refl _ _)⟩
      case round =>
        obtain ⟨m, O2, hm, rfl, hO2, HO2, HRq, HBq, HKq⟩ := hrel
        obtain ⟨a7, c7, rfl, _, _⟩ := HRq.out.shape
        rw [sc_len] at *
        by_cases hlm : m < P.length
        · obtain ⟨g2, rfl, hg2, q2⟩ := HC2.out m hlm
          have hys := Nat.le_trans (HPM.out P[m] (List.getElem_mem hlm)) hxs
          have HTK := hide (take_snocF P m hlm)
          obtain ⟨y, hy⟩ : ∃ y, P[m] = y := ⟨_, rfl⟩
          rw [hy] at q2 hys HTK
          clear hy
          have hap := HAP.out g2 rfl
          have r2 : wr.cell? ⟨g2, m, none⟩ = some (.string y) := (HKq.out.cell hap.1 hap.2).trans q2
          clear q2 hap hg2
          go_wp2_with fail
          refine (rlower_any y wr (by omega)).mono ?_
          rintro e w3 ⟨rfl, b3⟩
          have HO3 : Hid (O2 ++ [lowS y] = O ++ (P.take (m + 1)).map lowS) := hide (by rw [HO2.out, HTK.out]; simp)
          generalize lowS y = ly at HO3 ⊢
          have HR3 := hide (HRq.out.below b3)
          have HB3 := hide (HBq.out.trans (b3.mono HBq.out.size))
          have HK3 := hide (HKq.out.below b3)
          clear HRq HBq HKq b3 HTK
          go_wp2_with (at_builtin; apply Hid.out)
          unfold Hid
          refine wpList_append_one_k elS rfl _ _ rfl w3 w1.heap.size (.slice a7 O2.length c7) (sc O2) (.string ly) rfl rfl HR3.out rfl (by rw [sc_len]; omega) (by rw [sc_len]; omega) HB3.out.size ?_
          intro v' w4 O' B' K'
          have O5 := hide O'
          have B5 := hide (HB3.out.trans B')
          have K5 := hide (HK3.out.trans K')
          clear O' B' K'
          go_wp2
          exact ⟨⟨m + 1, O2 ++ [ly], by omega, by go_num, by rw [List.length_append]; simp; omega, HO3, hide (by rw [sc_snoc]; exact O5.out), B5, K5⟩, by simp [intOf]; omega⟩
        · have HO4 : Hid (itemsV (V.take (k + 1)) = O2) := hide (by rw [HX2.out, HO2.out, List.take_of_length_le (by omega)])
          go_wp2
          exact ⟨⟨k + 1, O2, by omega, by go_num, by omega, HO4, HRq, HBq⟩, by simp [intOf]; omega⟩
    · have HE : Hid (itemsV V = O) := hide (by rw [← HO.out, List.take_of_length_le (by omega)])
      go_wp2
      go_ret
      exact ⟨_, rfl, by rw [HE.out]; exact HR.out.lower B1.out.size, B1.out.trans (HB.out.mono B1.out.size)⟩
end Go.Proofs.YtcagjipdldlehaaGreatDoor
/- A name's values in one text: the program's, the document's. -/
namespace Go.Proofs.YtcagjipdldlehaaGreatDoor
open Go.ChangeShapes Go.WideShapes Go.ChangeAt Go.RowKit

def getS (V : List ByteArray) : ByteArray := sS (joinB (V.map fun x => x.data.toList))
theorem join_eq : ∀ L : List (List UInt8), Lib.join L [44, 32] = joinB L
  | [] => rfl
  | [x] => by rw [Lib.join_one]; rfl
  | x :: y :: r => by
    have h := join_eq (y :: r)
    rw [joinB, ← h]
    simp [Lib.join, List.intercalate, List.intersperse]
theorem joinB_len : ∀ (V : List ByteArray), (∀ x ∈ V, x.size ≤ 1048576) → (joinB (V.map fun x => x.data.toList)).length ≤ V.length * 1048578
  | [], _ => by simp [joinB]
  | [x], h => by
    have := h x (by simp)
    simp only [List.map_cons, List.map_nil, joinB, size_len, List.length_cons, List.length_nil]
    omega
  | x :: y :: r, h => by
    have h1 := joinB_len (y :: r) (fun z hz => h z (List.mem_cons_of_mem _ hz))
    have h2 := h x (by simp)
    simp only [List.map_cons, joinB, List.length_append, size_len, List.length_cons, List.length_nil] at h1 ⊢
    omega
theorem getS_size (V : List ByteArray) (h : ∀ x ∈ V, x.size ≤ 1048576) : (getS V).size ≤ V.length * 1048578 := by
  unfold getS
  rw [sS_size]
  exact joinB_len V h
theorem get_step (V : List ByteArray) (k : Nat) (h : k < V.length) (t x : ByteArray) (ht : t = getS (V.take k)) (hx : V[k] = x) : (if k = 0 then t ++ x else (t ++ ⟨#[44, 32]⟩) ++ x) = getS (V.take (k + 1)) := by
  have e : ∀ a b : ByteArray, a.data.toList = b.data.toList → a = b := by
    intro a b hab
    cases a; cases b
    simp only [ByteArray.mk.injEq]
    exact Array.toList_inj.1 hab
  apply e
  unfold getS
  rw [sS_list, take_snocF V k h, List.map_append, List.map_cons, List.map_nil, joinB_snoc]
  subst ht hx
  by_cases h0 : k = 0
  · subst h0
    simp [getS, sS_list, joinB]
  · have hn : (V.take k).map (fun x => x.data.toList) ≠ [] := by
      intro hh
      have := congrArg List.length hh
      rw [List.length_map, List.length_take] at this
      simp only [List.length_nil] at this
      omega
    rw [if_neg h0, if_neg hn, app_list, app_list]
    unfold getS
    rw [sS_list]
theorem join_any (g c : Nat) (V : List ByteArray) (w : World) (hc : ∀ (j : Nat) x, V[j]? = some x → w.cell? ⟨g, 0 + j, none⟩ = some (.string x)) (hg : g < w.heap.size) (hV : V.length ≤ 1048576) (hcap : V.length ≤ c) (hz : (joinB (V.map fun x => x.data.toList)).length ≤ V.length * 1048578) :
    Calls Tryz.prog 154 #[.slice (some ⟨g, 0, none⟩) V.length c, .string ⟨#[44, 32]⟩] w fun e w' => e = .returned (.string (getS V)) ∧ Below w.heap.size w w' := by
  have hj : Lib.join (V.map fun x => x.data.toList) (⟨#[44, 32]⟩ : ByteArray).data.toList = joinB (V.map fun x => x.data.toList) := join_eq _
  have h := Tryz.strings_Join g 0 c V ⟨#[44, 32]⟩ w hc hg (by omega) hcap (by rw [hj]; omega)
  rw [hj] at h
  exact h
set_option maxHeartbeats 1000000 in
theorem get_any (w : World) (l : Value) (A : List (ByteArray × ByteArray)) (n : ByteArray) (hA : Flds w l A) (hs : Sm A) (hn : n.size ≤ 1048576) :
    Calls Tryz.prog 128 #[l, .string n] w fun e w' => e = .returned (.tuple #[.string (getS (allS A n)), .bool (decide (0 < (allS A n).length))]) ∧ Below w.heap.size w w' := by
  have HAL := hide (all_any w l A n hA hs hn)
  have HVM := hide (fun x (hx : x ∈ allS A n) => allS_mem hs hx)
  have hVl := allS_le (n := n) hs
  clear hA hs hn
  generalize allS A n = V at HAL HVM hVl ⊢
  have HSZ := hide (joinB_len V HVM.out)
  by_cases h0 : V.length = 0
  · have hV0 : V = [] := List.eq_nil_of_length_eq_zero h0
    subst hV0
    clear h0 hVl
    go_enter Tryz.func128, Tryz.ntmps128
    go_wp2_with fail
    refine HAL.out.mono ?_
    rintro e w1 ⟨v1, rfl, hV, b1⟩
    obtain ⟨a1, c1, rfl, _, _⟩ := hV.shape
    have B1 := hide b1
    clear hV b1 HAL
    go_wp2_with fail
    refine (Tryz.strings_Join_none _ _ _ _).mono ?_
    rintro e w2 ⟨rfl, rfl⟩
    go_wp2
    go_ret2
    exact ⟨rfl, B1.out⟩
  · have hpos : 0 < V.length := by omega
    have td : decide (0 < V.length) = true := decide_eq_true hpos
    rw [td]
    have hpi : (0 : Int) < (V.length : Int) := by omega
    clear h0 td
    go_enter Tryz.func128, Tryz.ntmps128
    go_wp2_with fail
    refine HAL.out.mono ?_
    rintro e w1 ⟨v1, rfl, hV, b1⟩
    obtain ⟨a1, c1, rfl, hcv⟩ := Strs.of_row hV
    have hcap : V.length ≤ c1 := by
      obtain ⟨a2, c2, he, h2, _⟩ := hV.shape
      simp only [Value.slice.injEq] at he
      rw [sc_len] at h2
      rw [he.2.2]
      exact h2
    obtain ⟨g, rfl, hg, _⟩ := hcv 0 hpos
    have HC : Hid (∀ (j : Nat) x, V[j]? = some x → w1.cell? ⟨g, 0 + j, none⟩ = some (.string x)) := hide (fun j x hx => by
      obtain ⟨hj, rfl⟩ := List.getElem?_eq_some_iff.1 hx
      obtain ⟨g', hg', _, hc⟩ := hcv j hj
      simp only [Option.some.injEq, Addr.mk.injEq, and_true] at hg'
      rw [Nat.zero_add, hg']
      exact hc)
    have B1 := hide b1
    have HCP := hide hcap
    clear hV hcv b1 HAL hcap
    go_wp2_with fail
    refine (join_any g c1 V w1 HC.out hg hVl HCP.out HSZ.out).mono ?_
    rintro e w2 ⟨rfl, b2⟩
    go_wp2
    go_ret2
    exact ⟨rfl, B1.out.trans (b2.mono B1.out.size)⟩
set_option maxHeartbeats 1000000 in
theorem rget_any (w : World) (l : Value) (A : List (ByteArray × ByteArray)) (n : ByteArray) (hA : Flds w l A) (hs : Sm A) (hn : n.size ≤ 1048576) :
    Calls Tryz.prog 68 #[l, .string n] w fun e w' => e = .returned (.tuple #[.string (getS (allS A n)), .bool (decide (0 < (allS A n).length))]) ∧ Below w.heap.size w w' := by
  have HAL := hide (rall_any w l A n hA hs hn)
  have HVM := hide (fun x (hx : x ∈ allS A n) => allS_mem hs hx)
  have hVl := allS_le (n := n) hs
  clear hA hs hn
  generalize allS A n = V at HAL HVM hVl ⊢
  have HSZ := hide (fun k => getS_size (V.take k) (fun x hx => HVM.out x (List.mem_of_mem_take hx)))
  go_enter Tryz.func68, Tryz.ntmps68
  go_wp2_with fail
  refine HAL.out.mono ?_
  rintro e w1 ⟨v1, rfl, hV, b1⟩
  obtain ⟨a1, c1, rfl, hcv⟩ := Strs.of_row hV
  have HV := hide hcv
  have B1 := hide b1
  clear hV hcv b1 HAL
  go_wp2
  go_loop [15, 6] (fun i s => ∃ (k : Nat) (t : ByteArray), k ≤ V.length ∧ i = .int .i64 k ∧ s = .string t ∧ t.size ≤ 1099514257408 ∧ Hid (t = getS (V.take k))) (fun i _ => V.length - (intOf i).toNat)
  case atStart => exact ⟨0, ⟨#[]⟩, Nat.zero_le _, rfl, rfl, by decide, hide rfl⟩
  case round =>
    obtain ⟨k, t, hk, rfl, rfl, ht, HT⟩ := hrel
    by_cases hlt : k < V.length
    · obtain ⟨g1, rfl, hgl, r1⟩ := HV.out k hlt
      have hxs := HVM.out V[k] (List.getElem_mem hlt)
      have HNX := hide (fun x hx => get_step V k hlt t x HT.out hx)
      have hz2 := HSZ.out (k + 1)
      obtain ⟨x, hx⟩ : ∃ x, V[k] = x := ⟨_, rfl⟩
      rw [hx] at r1 hxs
      have HX := hide (HNX.out x hx)
      clear hx HNX hgl
      have hz3 : (getS (V.take (k + 1))).size ≤ 1099514257408 := by
        rw [List.length_take] at hz2
        have : min (k + 1) V.length ≤ 1048576 := by omega
        have := Nat.mul_le_mul_right 1048578 this
        omega
      have HZ3 := hide hz3
      clear hz2 hz3
      by_cases h0 : k = 0
      · have HX2 : Hid (t ++ x = getS (V.take (k + 1))) := hide (by rw [← HX.out, if_pos h0])
        have t0 : ¬ (0 : Int) < (k : Int) := by omega
        clear h0 HX
        go_wp2
        exact ⟨⟨k + 1, t ++ x, by omega, by go_num, rfl, by rw [HX2.out]; exact HZ3.out, HX2⟩, by simp [intOf]; omega⟩
      · have HX2 : Hid ((t ++ ⟨#[44, 32]⟩) ++ x = getS (V.take (k + 1))) := hide (by rw [← HX.out, if_neg h0])
        have t0 : (0 : Int) < (k : Int) := by omega
        clear h0 HX
        go_wp2
        exact ⟨⟨k + 1, (t ++ ⟨#[44, 32]⟩) ++ x, by omega, by go_num, rfl, by rw [HX2.out]; exact HZ3.out, HX2⟩, by simp [intOf]; omega⟩
    · have HE : Hid (t = getS V) := hide (by rw [HT.out, List.take_of_length_le (by omega)])
      by_cases h0 : V.length = 0
      · have t0 : ¬ (0 : Int) < (V.length : Int) := by omega
        have td : decide (0 < V.length) = false := decide_eq_false (by omega)
        have TD := hide td
        clear td
        clear h0
        go_wp2
        go_ret2
        exact ⟨by rw [HE.out, TD.out]; rfl, B1.out⟩
      · have t0 : (0 : Int) < (V.length : Int) := by omega
        have td : decide (0 < V.length) = true := decide_eq_true (by omega)
        have TD := hide td
        clear td
        clear h0
        go_wp2
        go_ret2
        exact ⟨by rw [HE.out, TD.out]; rfl, B1.out⟩
end Go.Proofs.YtcagjipdldlehaaGreatDoor
/- Whether a name has an element: the program's, the document's. -/
namespace Go.Proofs.YtcagjipdldlehaaGreatDoor
open Go.ChangeShapes Go.WideShapes Go.ChangeAt Go.RowKit

def memB (x : ByteArray) (V : List ByteArray) : Bool := V.any fun y => decide (y = x)
theorem memB_iff {x : ByteArray} {V : List ByteArray} : memB x V = true ↔ x ∈ V := by
  unfold memB
  rw [List.any_eq_true]
  constructor
  · rintro ⟨y, hy, he⟩; rw [← of_decide_eq_true he]; exact hy
  · intro h; exact ⟨x, h, decide_eq_true rfl⟩
theorem memB_true {x : ByteArray} {V : List ByteArray} (h : x ∈ V) : memB x V = true := memB_iff.2 h
theorem memB_false {x : ByteArray} {V : List ByteArray} (h : x ∉ V) : memB x V = false := by
  cases hb : memB x V with
  | false => rfl
  | true => exact absurd (memB_iff.1 hb) h
def hasB (A : List (ByteArray × ByteArray)) (n item : ByteArray) : Bool := memB (lowS item) (itemsS A n)
theorem mem_next {V : List ByteArray} {k : Nat} {x y : ByteArray} (hk : k < V.length) (he : V[k] = y) (h : x ∉ V.take k) (hn : x ≠ y) : x ∉ V.take (k + 1) := by
  rw [take_snocF V k hk, he, List.mem_append]
  rintro (h1 | h1)
  · exact h h1
  · simp only [List.mem_singleton] at h1
    exact hn h1
set_option maxHeartbeats 1000000 in
theorem index_any (w : World) (v : Value) (V : List ByteArray) (x : ByteArray) (hV : Strs w v V) (hl : V.length ≤ 1099511627776) :
    Calls Tryz.prog 172 #[v, .string x] w fun e w' => ∃ r : Int, e = .returned (.int .i64 r) ∧ decide (0 ≤ r) = memB x V ∧ w = w' := by
  obtain ⟨a1, c1, rfl, hcv⟩ := hV
  have HV := hide hcv
  clear hcv
  go_enter Tryz.func172, Tryz.ntmps172
  go_wp2
  go_loop [8] (fun i => ∃ k : Nat, k ≤ V.length ∧ i = .int .i64 k ∧ Hid (x ∉ V.take k)) (fun i => V.length - (intOf i).toNat)
  case atStart => exact ⟨0, Nat.zero_le _, rfl, hide (by simp)⟩
  case round =>
    obtain ⟨k, hk, rfl, HN⟩ := hrel
    by_cases hlt : k < V.length
    · obtain ⟨g1, rfl, hgl, r1⟩ := HV.out k hlt
      have HM := hide (List.getElem_mem hlt)
      have HX := hide (fun y he hn => mem_next (x := x) (y := y) hlt he HN.out hn)
      obtain ⟨y, hy⟩ : ∃ y, V[k] = y := ⟨_, rfl⟩
      rw [hy] at r1 HM
      have HY := hide hy
      clear hy hgl
      have hb := bytes_eq x y
      by_cases h : x = y
      · subst h
        have t1 : (x.toList == x.toList) = true := by rw [hb]; exact decide_eq_true rfl
        clear hb
        go_wp2
        go_ret
        exact ⟨k, rfl, by rw [decide_eq_true (show (0 : Int) ≤ (k : Int) by omega), memB_true HM.out], rfl⟩
      · have t1 : (x.toList == y.toList) = false := by rw [hb]; exact decide_eq_false h
        have HN2 := hide (HX.out y HY.out h)
        clear hb h
        go_wp2
        exact ⟨⟨k + 1, by omega, by go_num, HN2⟩, by simp [intOf]; omega⟩
    · have HE : Hid (x ∉ V) := hide (by have := HN.out; rw [List.take_of_length_le (by omega)] at this; exact this)
      go_wp2
      go_ret
      exact ⟨-1, rfl, by rw [memB_false HE.out]; rfl, rfl⟩
theorem contains_any (w : World) (v : Value) (V : List ByteArray) (x : ByteArray) (hV : Strs w v V) (hl : V.length ≤ 1099511627776) :
    Calls Tryz.prog 157 #[v, .string x] w fun e w' => e = .returned (.bool (memB x V)) ∧ w = w' := by
  have HI := hide (index_any w v V x hV hl)
  obtain ⟨a1, c1, rfl, hcv⟩ := hV
  clear hcv
  generalize memB x V = d at HI ⊢
  go_enter Tryz.func157, Tryz.ntmps157
  go_wp2_with fail
  refine HI.out.mono ?_
  rintro e w1 ⟨r, rfl, hr, rfl⟩
  have HR := hide hr
  clear hr
  go_wp2
  go_ret
  exact ⟨by rw [← HR.out]; rfl, rfl⟩
theorem itemsS_len {A : List (ByteArray × ByteArray)} (hs : Sm A) (n : ByteArray) : (itemsS A n).length ≤ 1099511627776 := by
  have h1 := itemsV_len (allS A n) (fun x hx => allS_mem hs hx)
  have h2 := Nat.mul_le_mul_right 1048576 (allS_le (n := n) hs)
  unfold itemsS
  omega
set_option maxHeartbeats 1000000 in
theorem has_any (w : World) (l : Value) (A : List (ByteArray × ByteArray)) (n item : ByteArray) (hA : Flds w l A) (hs : Sm A) (hn : n.size ≤ 1048576) (hi : item.size ≤ 1048576) :
    Calls Tryz.prog 131 #[l, .string n, .string item] w fun e w' => e = .returned (.bool (hasB A n item)) ∧ Below w.heap.size w w' := by
  have HI := hide (items_any w l A n hA hs hn)
  have hL := itemsS_len hs n
  unfold hasB
  clear hA hs hn
  generalize itemsS A n = V at HI hL ⊢
  go_enter Tryz.func131, Tryz.ntmps131
  go_wp2_with fail
  refine HI.out.mono ?_
  rintro e w1 ⟨v1, rfl, hR, b1⟩
  have HS1 := hide (Strs.of_row hR)
  have B1 := hide b1
  clear HI b1
  obtain ⟨a1, c1, rfl, _, _⟩ := hR.shape
  clear hR
  go_wp2_with fail
  refine (lower_any item w1 (by unfold maxLen; omega)).mono ?_
  rintro e w2 ⟨rfl, b2⟩
  have HS2 := hide (HS1.out.below b2)
  have B2 := hide (B1.out.trans (b2.mono B1.out.size))
  clear b2 HS1 B1
  go_wp2_with fail
  refine (contains_any w2 _ V (lowS item) HS2.out hL).mono ?_
  rintro e w3 ⟨rfl, rfl⟩
  go_wp2
  go_ret
  exact ⟨rfl, B2.out⟩
set_option maxHeartbeats 1000000 in
theorem rhas_any (w : World) (l : Value) (A : List (ByteArray × ByteArray)) (n item : ByteArray) (hA : Flds w l A) (hs : Sm A) (hn : n.size ≤ 1048576) (hi : item.size ≤ 1048576) :
    Calls Tryz.prog 108 #[l, .string n, .string item] w fun e w' => e = .returned (.bool (hasB A n item)) ∧ Below w.heap.size w w' := by
  have HI := hide (ritems_any w l A n hA hs hn)
  have hL := itemsS_len hs n
  unfold hasB
  clear hA hs hn
  generalize itemsS A n = V at HI hL ⊢
  have HLW := hide (fun W => rlower_any item W (by omega))
  generalize lowS item = it at HLW ⊢
  clear hi
  go_enter Tryz.func108, Tryz.ntmps108
  go_wp2_with fail
  refine HI.out.mono ?_
  rintro e w1 ⟨v1, rfl, hR, b1⟩
  obtain ⟨a1, c1, rfl, hcv⟩ := Strs.of_row hR
  have HV := hide hcv
  have B1 := hide b1
  clear HI b1 hR hcv
  go_wp2
  go_loopw [13] (fun i wr => ∃ k : Nat, k ≤ V.length ∧ i = .int .i64 k ∧ Hid (it ∉ V.take k) ∧ Hid (Below w1.heap.size w1 wr)) (fun i _ => V.length - (intOf i).toNat)
  case atStart => exact ⟨0, Nat.zero_le _, rfl, hide (by simp), hide (Below.refl _ _)⟩
  case round =>
    obtain ⟨k, hk, rfl, HN, HB⟩ := hrel
    by_cases hlt : k < V.length
    · obtain ⟨g1, rfl, hgl, q1⟩ := HV.out k hlt
      have HM := hide (List.getElem_mem hlt)
      have HX := hide (fun y he hn => mem_next (x := it) (y := y) hlt he HN.out hn)
      obtain ⟨y, hy⟩ : ∃ y, V[k] = y := ⟨_, rfl⟩
      rw [hy] at q1 HM
      have HY := hide hy
      have r1 : wr.cell? ⟨g1, k, none⟩ = some (.string y) := (HB.out.cell (p := ⟨g1, k, none⟩) hgl).trans q1
      clear hy hgl q1
      have hb := bytes_eq y it
      go_wp2_with fail
      refine (HLW.out wr).mono ?_
      rintro e w2 ⟨rfl, b2⟩
      have HB2 := hide (HB.out.trans (b2.mono HB.out.size))
      clear b2
      by_cases h : y = it
      · subst h
        have t1 : (y.toList == y.toList) = true := by rw [hb]; exact decide_eq_true rfl
        clear hb
        go_wp2
        go_ret
        exact ⟨by rw [memB_true HM.out]; rfl, B1.out.trans (HB2.out.mono B1.out.size)⟩
      · have t1 : (y.toList == it.toList) = false := by rw [hb]; exact decide_eq_false h
        have HN2 := hide (HX.out y HY.out (fun e => h e.symm))
        clear hb h
        go_wp2
        exact ⟨⟨k + 1, by omega, by go_num, HN2, HB2⟩, by simp [intOf]; omega⟩
    · have HE : Hid (it ∉ V) := hide (by have := HN.out; rw [List.take_of_length_le (by omega)] at this; exact this)
      go_wp2
      go_ret
      exact ⟨by rw [memB_false HE.out]; rfl, B1.out.trans (HB.out.mono B1.out.size)⟩
end Go.Proofs.YtcagjipdldlehaaGreatDoor
/- What fields tell of a body's end, as plain functions. -/
namespace Go.Proofs.YtcagjipdldlehaaGreatDoor
open Go.ChangeShapes Go.WideShapes Go.ChangeAt Go.RowKit

def teS : ByteArray := ⟨#[116, 114, 97, 110, 115, 102, 101, 114, 45, 101, 110, 99, 111, 100, 105, 110, 103]⟩
def clS : ByteArray := ⟨#[99, 111, 110, 116, 101, 110, 116, 45, 108, 101, 110, 103, 116, 104]⟩
def coS : ByteArray := ⟨#[99, 111, 110, 110, 101, 99, 116, 105, 111, 110]⟩
def shutS : ByteArray := ⟨#[99, 108, 111, 115, 101]⟩
def kaS : ByteArray := ⟨#[107, 101, 101, 112, 45, 97, 108, 105, 118, 101]⟩
def chS : ByteArray := ⟨#[99, 104, 117, 110, 107, 101, 100]⟩

/-- A connection is kept. -/
def keepB (A : List (ByteArray × ByteArray)) (m : Int) : Bool := if hasB A coS shutS then false else if m = 0 then hasB A coS kaS else decide (m = 1)
/-- A name is told. -/
def toldB (A : List (ByteArray × ByteArray)) (n : ByteArray) : Bool := decide (0 < (allS A n).length)
/-- Elements that are one number. -/
def oneIs (I : List ByteArray) (n : Nat) : Bool := I.all fun x => decide (numE 10 x.data.toList = 0 ∧ numV 10 x.data.toList = n)
def firstN : List ByteArray → Nat
  | [] => 0
  | x :: _ => numV 10 x.data.toList
def lenOk (I : List ByteArray) : Bool := !I.isEmpty && oneIs I (firstN I)
def lenN (I : List ByteArray) : Nat := if lenOk I then firstN I else 0
def codeOk (A : List (ByteArray × ByteArray)) (m : Int) : Bool := decide (m = 1) && decide (itemsS A teS = [chS])
/-- A framing, and what is wrong. -/
structure Fo where
  k : Int
  n : Int
  b : Bool
  e : Int
def toldO (A : List (ByteArray × ByteArray)) (m : Int) (k : Int) (b : Bool) : Fo :=
  if toldB A teS && toldB A clS then ⟨0, 0, false, 91⟩ else if toldB A teS && !codeOk A m then ⟨0, 0, false, 92⟩ else if toldB A clS && !lenOk (itemsS A clS) then ⟨0, 0, false, 90⟩
  else if toldB A teS then ⟨3, 0, keepB A m, 0⟩ else if toldB A clS then ⟨2, (lenN (itemsS A clS) : Nat), keepB A m, 0⟩ else ⟨k, 0, b, 0⟩
def reqO (A : List (ByteArray × ByteArray)) (r : Bool) (m : Int) : Fo := if r then toldO A m 1 (keepB A m) else ⟨0, 0, false, 1⟩
def headS : ByteArray := ⟨#[72, 69, 65, 68]⟩
def resO (A : List (ByteArray × ByteArray)) (r : Bool) (m st : Int) (me : ByteArray) : Fo :=
  if r then ⟨0, 0, false, 1⟩ else if st < 200 ∨ st = 204 ∨ st = 304 ∨ me = headS then ⟨1, 0, keepB A m, 0⟩ else toldO A m 4 false
def frVg (k n : Int) (b : Bool) : Value := .agg #[.int .i64 k, .int .i64 n, .bool b]
def foV (o : Fo) : Value := .tuple #[frVg o.k o.n o.b, .int .i64 o.e]
def hdC (r : Bool) (me ta : ByteArray) (mi st : Int) (re : ByteArray) (l : Value) : Array Value := #[.bool r, .string me, .string ta, .int .i64 mi, .int .i64 st, .string re, l]

theorem Bl.hd {w x : World} {L : List (Array Value × TypeId)} (h : Bl w x L) (i g : Nat) (hg : g = w.heap.size + i) {r : Bool} {me ta : ByteArray} {mi st : Int} {re : ByteArray} {l : Value} {t : TypeId} (hi : L[i]? = some (#[.bool r, .string me, .string ta, .int .i64 mi, .int .i64 st, .string re, l], t)) :
    x.cell? ⟨g, 0, none⟩ = some (.bool r) ∧ x.cell? ⟨g, 1, none⟩ = some (.string me) ∧ x.cell? ⟨g, 2, none⟩ = some (.string ta) ∧ x.cell? ⟨g, 3, none⟩ = some (.int .i64 mi) ∧ x.cell? ⟨g, 4, none⟩ = some (.int .i64 st) ∧ x.cell? ⟨g, 5, none⟩ = some (.string re) ∧ x.cell? ⟨g, 6, none⟩ = some l := by
  subst hg
  exact ⟨h.cell i hi 0, h.cell i hi 1, h.cell i hi 2, h.cell i hi 3, h.cell i hi 4, h.cell i hi 5, h.cell i hi 6⟩
theorem Bl.st {w x : World} {L : List (Array Value × TypeId)} (h : Bl w x L) (i g : Nat) (hg : g = w.heap.size + i) {a b c : Value} {t : TypeId} (hi : L[i]? = some (#[a, b, c], t)) :
    x.cell? ⟨g, 0, none⟩ = some a ∧ x.cell? ⟨g, 1, none⟩ = some b ∧ x.cell? ⟨g, 2, none⟩ = some c ∧ x.frozen? ⟨g, 0, none⟩ = false ∧ x.frozen? ⟨g, 1, none⟩ = false ∧ x.frozen? ⟨g, 2, none⟩ = false := by
  subst hg
  exact ⟨h.cell i hi 0, h.cell i hi 1, h.cell i hi 2, h.fr i hi 0, h.fr i hi 1, h.fr i hi 2⟩
theorem set3 {n : Nat} {w x : World} {g : Nat} (h : Below n w x) (hg : n ≤ g) (a b c : Value) : Below n w (((x.setCell ⟨g, 0, none⟩ a).setCell ⟨g, 1, none⟩ b).setCell ⟨g, 2, none⟩ c) :=
  ((h.setCell (p := ⟨g, 0, none⟩) hg a).setCell (p := ⟨g, 1, none⟩) hg b).setCell (p := ⟨g, 2, none⟩) hg c
theorem st3 {w x : World} {L : List (Array Value × TypeId)} (h : Bl w x L) (i g : Nat) (hg : g = w.heap.size + i) {a b c : Value} {t : TypeId} (hi : L[i]? = some (#[a, b, c], t)) (k n : Int) (q : Bool) :
    (((x.setCell ⟨g, 0, none⟩ (.int .i64 k)).setCell ⟨g, 1, none⟩ (.int .i64 n)).setCell ⟨g, 2, none⟩ (.bool q)).cell? ⟨g, 0, none⟩ = some (.int .i64 k) ∧
    (((x.setCell ⟨g, 0, none⟩ (.int .i64 k)).setCell ⟨g, 1, none⟩ (.int .i64 n)).setCell ⟨g, 2, none⟩ (.bool q)).cell? ⟨g, 1, none⟩ = some (.int .i64 n) ∧
    (((x.setCell ⟨g, 0, none⟩ (.int .i64 k)).setCell ⟨g, 1, none⟩ (.int .i64 n)).setCell ⟨g, 2, none⟩ (.bool q)).cell? ⟨g, 2, none⟩ = some (.bool q) ∧
    Below w.heap.size w (((x.setCell ⟨g, 0, none⟩ (.int .i64 k)).setCell ⟨g, 1, none⟩ (.int .i64 n)).setCell ⟨g, 2, none⟩ (.bool q)) := by
  subst hg
  have h3 := hp_set (hp_set (hp_set (h.hp i _ _ hi) 0 (.int .i64 k)) 1 (.int .i64 n)) 2 (.bool q)
  exact ⟨cell_at h3 0, cell_at h3 1, cell_at h3 2, set3 h.b (by omega) _ _ _⟩
theorem oneIs_no {I : List ByteArray} {n k : Nat} (hk : k < I.length) {x : ByteArray} (hx : I[k] = x) (h : ¬ (numE 10 x.data.toList = 0 ∧ numV 10 x.data.toList = n)) : oneIs I n = false := by
  cases hb : oneIs I n with
  | false => rfl
  | true =>
    unfold oneIs at hb
    have := List.all_eq_true.1 hb I[k] (List.getElem_mem hk)
    rw [hx] at this
    exact absurd (of_decide_eq_true this) h
theorem oneIs_snoc {I : List ByteArray} {n k : Nat} (hk : k < I.length) {x : ByteArray} (hx : I[k] = x) (h : oneIs (I.take k) n = true) (h2 : numE 10 x.data.toList = 0 ∧ numV 10 x.data.toList = n) : oneIs (I.take (k + 1)) n = true := by
  unfold oneIs at h ⊢
  rw [take_snocF I k hk, hx, List.all_append, h]
  simp [h2]
theorem lenOk_cons {I : List ByteArray} (h : 0 < I.length) : lenOk I = oneIs I (firstN I) := by
  cases I with
  | nil => simp at h
  | cons x r => simp [lenOk]
theorem firstN_at {I : List ByteArray} (h : 0 < I.length) {x : ByteArray} (hx : I[0] = x) : firstN I = numV 10 x.data.toList := by
  cases I with
  | nil => simp at h
  | cons y r => simp at hx; subst hx; rfl
theorem num_topN (l : List UInt8) : numV 10 l ≤ 9007199254740992 := by
  unfold numV
  split
  · exact Nat.zero_le _
  · have := accu_le 10 (by decide) l
    unfold top at *
    omega
theorem lenN_le (I : List ByteArray) : lenN I ≤ 9007199254740992 := by
  unfold lenN
  split
  · cases I with
    | nil => simp [firstN]
    | cons x r => exact num_topN _
  · exact Nat.zero_le _

/- Great letters: the same framing. -/
def upc (c : UInt8) : UInt8 := if 97 ≤ c.toNat ∧ c.toNat ≤ 122 then UInt8.ofNat (c.toNat - 32) else c
def upS (s : ByteArray) : ByteArray := ⟨(s.data.toList.map upc).toArray⟩
def upF (f : ByteArray × ByteArray) : ByteArray × ByteArray := (upS f.1, upS f.2)
theorem upc_all : ∀ n : Fin 256, lowc (upc (UInt8.ofNat n.val)) = lowc (UInt8.ofNat n.val) ∧ blankc (upc (UInt8.ofNat n.val)) = blankc (UInt8.ofNat n.val) ∧ (upc (UInt8.ofNat n.val) = 44 ↔ UInt8.ofNat n.val = 44) ∧ (upc (UInt8.ofNat n.val) = 92 ↔ UInt8.ofNat n.val = 92) ∧ (upc (UInt8.ofNat n.val) = 34 ↔ UInt8.ofNat n.val = 34) := by decide +kernel
theorem upc_at (c : UInt8) : lowc (upc c) = lowc c ∧ blankc (upc c) = blankc c ∧ (upc c = 44 ↔ c = 44) ∧ (upc c = 92 ↔ c = 92) ∧ (upc c = 34 ↔ c = 34) := by
  have h := upc_all ⟨c.toNat, UInt8.toNat_lt c⟩
  simpa using h
theorem upS_list (s : ByteArray) : (upS s).data.toList = s.data.toList.map upc := by simp [upS]
theorem upS_size (s : ByteArray) : (upS s).size = s.size := by
  rw [← size_len, upS_list, List.length_map, size_len]
theorem low_up (l : List UInt8) : lowerB (l.map upc) = lowerB l := by
  unfold lowerB
  rw [List.map_map]
  exact List.map_congr_left fun c _ => (upc_at c).1
theorem lowS_upS (s : ByteArray) : lowS (upS s) = lowS s := by
  unfold lowS
  rw [upS_list, low_up]
theorem nm_up (n : ByteArray) (f : ByteArray × ByteArray) : nmB n (upF f) = nmB n f := by
  unfold nmB sameB upF
  rw [upS_list, low_up]
theorem allS_up (A : List (ByteArray × ByteArray)) (n : ByteArray) : allS (A.map upF) n = (allS A n).map upS := by
  unfold allS
  induction A with
  | nil => rfl
  | cons f r ih =>
    simp only [List.map_cons, List.filter_cons, nm_up]
    cases nmB n f
    · simpa using ih
    · simp only [if_true, List.map_cons, ih]; rfl
theorem nx_up (q k : Bool) (c : UInt8) : nx q k (upc c) = nx q k c := by
  unfold nx
  simp only [(upc_at c).2.2.2.1, (upc_at c).2.2.2.2]
theorem pend_up : ∀ (l : List UInt8) (q k : Bool), pend q k (l.map upc) = pend q k l
  | [], _, _ => rfl
  | c :: r, q, k => by
    simp only [List.map_cons, pend, nx_up, (upc_at c).2.2.1, pend_up r]
theorem dropWhile_up (l : List UInt8) : (l.map upc).dropWhile blankc = (l.dropWhile blankc).map upc := by
  induction l with
  | nil => rfl
  | cons c r ih =>
    simp only [List.map_cons, List.dropWhile_cons, (upc_at c).2.1]
    cases blankc c
    · rfl
    · exact ih
theorem trim_up (l : List UInt8) : trimB (l.map upc) = (trimB l).map upc := by
  rw [trimB_eq, trimB_eq]
  unfold ltrim rtrim
  rw [← List.map_reverse, dropWhile_up, ← List.map_reverse, dropWhile_up]
theorem elem_up (p : List UInt8) : elem (p.map upc) = (elem p).map (List.map upc) := by
  unfold elem
  rw [trim_up]
  by_cases h : trimB p = []
  · rw [h]; rfl
  · rw [if_neg h, if_neg (by simpa using h)]; rfl
theorem list_up (l : List UInt8) : listB (l.map upc) = (listB l).map (List.map upc) := by
  induction h : l.length using Nat.strongRecOn generalizing l with
  | ind n ih =>
    by_cases h0 : l = []
    · subst h0; simp [listB_nil]
    · have hp : 0 < l.length := List.length_pos_iff.2 h0
      rw [listB_cons h0, listB_cons (by simpa using h0), pend_up, List.map_append, ← elem_up, ← List.map_take, ← List.map_drop, ih _ (by rw [List.length_drop]; omega) _ rfl]
theorem small_up (v : ByteArray) : smallS (upS v) = smallS v := by
  unfold smallS listS
  rw [upS_list, list_up, List.map_map, List.map_map, List.map_map]
  refine List.map_congr_left fun x _ => ?_
  show lowS (sS (x.map upc)) = lowS (sS x)
  unfold lowS sS
  simp [low_up]
theorem items_up (A : List (ByteArray × ByteArray)) (n : ByteArray) : itemsS (A.map upF) n = itemsS A n := by
  unfold itemsS itemsV
  rw [allS_up, List.flatMap_map]
  congr 1
  funext v
  exact small_up v
theorem has_up (A : List (ByteArray × ByteArray)) (n i : ByteArray) : hasB (A.map upF) n i = hasB A n i := by
  unfold hasB
  rw [items_up]
theorem keep_up (A : List (ByteArray × ByteArray)) (m : Int) : keepB (A.map upF) m = keepB A m := by
  unfold keepB
  rw [has_up, has_up]
theorem told_up (A : List (ByteArray × ByteArray)) (n : ByteArray) : toldB (A.map upF) n = toldB A n := by
  unfold toldB
  rw [allS_up, List.length_map]
theorem toldO_up (A : List (ByteArray × ByteArray)) (m k : Int) (b : Bool) : toldO (A.map upF) m k b = toldO A m k b := by
  unfold toldO codeOk
  rw [told_up, told_up, items_up, items_up, keep_up]
theorem req_up (A : List (ByteArray × ByteArray)) (r : Bool) (m : Int) : reqO (A.map upF) r m = reqO A r m := by
  unfold reqO
  rw [toldO_up, keep_up]
theorem res_up (A : List (ByteArray × ByteArray)) (r : Bool) (m st : Int) (me : ByteArray) : resO (A.map upF) r m st me = resO A r m st me := by
  unfold resO
  rw [toldO_up, keep_up]
theorem sm_up {A : List (ByteArray × ByteArray)} (h : Sm A) : Sm (A.map upF) := by
  refine ⟨by rw [List.length_map]; exact h.1, fun f hf => ?_⟩
  obtain ⟨g, hg, rfl⟩ := List.mem_map.1 hf
  have := h.2 g hg
  unfold upF
  simp only [upS_size]
  exact this

/- One length more. -/
def moreN : ByteArray := ⟨#[67, 111, 110, 116, 101, 110, 116, 45, 76, 101, 110, 103, 116, 104]⟩
def decS (n : Nat) : ByteArray := sS (Lib.decDigits n)
theorem digv_plain : ∀ n : Fin 256, digv (UInt8.ofNat n.val) < 10 → UInt8.ofNat n.val ≠ 44 ∧ UInt8.ofNat n.val ≠ 92 ∧ UInt8.ofNat n.val ≠ 34 ∧ blankc (UInt8.ofNat n.val) = false ∧ lowc (UInt8.ofNat n.val) = UInt8.ofNat n.val := by decide +kernel
theorem digv_at (c : UInt8) (h : digv c < 10) : c ≠ 44 ∧ c ≠ 92 ∧ c ≠ 34 ∧ blankc c = false ∧ lowc c = c := by
  have := digv_plain ⟨c.toNat, UInt8.toNat_lt c⟩
  simp only [UInt8.ofNat_toNat] at this
  exact this h
theorem pend_dig : ∀ (l : List UInt8), (∀ c ∈ l, digv c < 10) → pend false false l = l.length
  | [], _ => rfl
  | c :: r, h => by
    have hc := digv_at c (h c (by simp))
    rw [pend, if_neg (by simp [hc.1])]
    have : nx false false c = (false, false) := by simp [nx, hc.2.2.1]
    rw [this, pend_dig r (fun x hx => h x (List.mem_cons_of_mem _ hx))]
    rfl
theorem trim_dig (l : List UInt8) (h : ∀ c ∈ l, digv c < 10) : trimB l = l := by
  have := (trim_id l).2 ⟨fun c hc => (digv_at c (h c (List.mem_of_mem_head? hc))).2.2.2.1, fun c hc => (digv_at c (h c (List.mem_of_mem_getLast? hc))).2.2.2.1⟩
  exact this.symm
theorem list_dig (l : List UInt8) (h : ∀ c ∈ l, digv c < 10) (h0 : l ≠ []) : listB l = [l] := by
  rw [listB_cons h0, pend_dig l h, List.take_length, List.drop_of_length_le (by omega), listB_nil]
  unfold elem
  rw [trim_dig l h, if_neg h0]
  rfl
theorem low_dig (l : List UInt8) (h : ∀ c ∈ l, digv c < 10) : lowerB l = l := by
  unfold lowerB
  rw [List.map_congr_left (g := id) (fun c hc => (digv_at c (h c hc)).2.2.2.2)]
  simp
theorem dec_dig (n : Nat) (h : n ≤ top) : ∀ c ∈ Lib.decDigits n, digv c < 10 := by
  intro c hc
  have := List.all_eq_true.1 (decD_back n h).1 c hc
  exact of_decide_eq_true this
theorem small_dec (n : Nat) (h : n ≤ top) : smallS (decS n) = [decS n] := by
  unfold smallS listS decS
  rw [sS_list, list_dig _ (dec_dig n h) (decD_ne n)]
  simp only [List.map_cons, List.map_nil]
  unfold lowS
  rw [sS_list, low_dig _ (dec_dig n h)]
  rfl
theorem num_decS (n : Nat) (h : n ≤ top) : numE 10 (decS n).data.toList = 0 ∧ numV 10 (decS n).data.toList = n := by
  unfold decS
  rw [sS_list]
  exact ⟨(num_dec h).2, (num_dec h).1⟩
theorem nm_more (v : ByteArray) : nmB teS (moreN, v) = false ∧ nmB clS (moreN, v) = true ∧ nmB coS (moreN, v) = false := by
  have h1 : sameB moreN.data.toList teS.data.toList = false := by decide +kernel
  have h2 : sameB moreN.data.toList clS.data.toList = true := by decide +kernel
  have h3 : sameB moreN.data.toList coS.data.toList = false := by decide +kernel
  exact ⟨h1, h2, h3⟩
def withN (A : List (ByteArray × ByteArray)) (n : Nat) (front : Bool) : List (ByteArray × ByteArray) := if front then (moreN, decS n) :: A else A ++ [(moreN, decS n)]
theorem all_with (A : List (ByteArray × ByteArray)) (n : Nat) (front : Bool) : allS (withN A n front) teS = allS A teS ∧ allS (withN A n front) coS = allS A coS ∧ allS (withN A n front) clS = if front then decS n :: allS A clS else allS A clS ++ [decS n] := by
  have h := nm_more (decS n)
  unfold withN allS
  cases front
  · simp only [if_false, Bool.false_eq_true, List.filter_append, List.map_append, List.filter_cons, List.filter_nil, h.1, h.2.1, h.2.2, if_true]
    simp
  · simp only [if_true, List.filter_cons, h.1, h.2.1, h.2.2, Bool.false_eq_true, if_false]
    simp
theorem items_with (A : List (ByteArray × ByteArray)) (n : Nat) (front : Bool) (h : n ≤ top) : itemsS (withN A n front) clS = if front then decS n :: itemsS A clS else itemsS A clS ++ [decS n] := by
  unfold itemsS
  rw [(all_with A n front).2.2]
  cases front
  · simp only [Bool.false_eq_true, if_false, itemsV, List.flatMap_append, List.flatMap_cons, List.flatMap_nil, small_dec n h]
    simp
  · simp only [if_true, itemsV, List.flatMap_cons, small_dec n h]
    rfl
theorem items_te (A : List (ByteArray × ByteArray)) (n : Nat) (front : Bool) : itemsS (withN A n front) teS = itemsS A teS := by
  unfold itemsS
  rw [(all_with A n front).1]
theorem keep_with (A : List (ByteArray × ByteArray)) (n : Nat) (front : Bool) (m : Int) : keepB (withN A n front) m = keepB A m := by
  unfold keepB hasB itemsS
  rw [(all_with A n front).2.1]
theorem told_te (A : List (ByteArray × ByteArray)) (n : Nat) (front : Bool) : toldB (withN A n front) teS = toldB A teS := by
  unfold toldB
  rw [(all_with A n front).1]
theorem told_cl (A : List (ByteArray × ByteArray)) (n : Nat) (front : Bool) : toldB (withN A n front) clS = true := by
  unfold toldB
  rw [(all_with A n front).2.2]
  cases front <;> simp
theorem one_other {I : List ByteArray} {a b : Nat} (h0 : 0 < I.length) (h : oneIs I a = true) : oneIs I b = decide (a = b) := by
  by_cases he : a = b
  · subst he; rw [h]; simp
  · rw [decide_eq_false he]
    refine oneIs_no h0 rfl ?_
    rintro ⟨_, h2⟩
    unfold oneIs at h
    have := of_decide_eq_true (List.all_eq_true.1 h I[0] (List.getElem_mem h0))
    exact he (this.2.symm.trans h2)
theorem len_with (I : List ByteArray) (n : Nat) (front : Bool) (h : n ≤ top) (hI : lenOk I = true) : lenOk (if front then decS n :: I else I ++ [decS n]) = decide (lenN I = n) := by
  have h0 : 0 < I.length := by
    cases I with
    | nil => simp [lenOk] at hI
    | cons x r => simp
  have h1 : oneIs I (firstN I) = true := by rw [← lenOk_cons h0]; exact hI
  have hl : lenN I = firstN I := by unfold lenN; rw [hI]; rfl
  rw [hl]
  have hd := num_decS n h
  cases front
  · rw [if_neg (by simp), lenOk_cons (by simp)]
    have hf : firstN (I ++ [decS n]) = firstN I := by
      cases I with
      | nil => simp at h0
      | cons x r => rfl
    rw [hf]
    unfold oneIs at h1 ⊢
    rw [List.all_append, h1]
    simp only [List.all_cons, List.all_nil, hd.1, hd.2, true_and, Bool.true_and, Bool.and_true]
    rw [Bool.eq_iff_iff]
    simp only [decide_eq_true_eq]
    exact ⟨Eq.symm, Eq.symm⟩
  · rw [if_pos rfl, lenOk_cons (by simp)]
    have hf : firstN (decS n :: I) = n := hd.2
    rw [hf]
    have : oneIs (decS n :: I) n = oneIs I n := by
      unfold oneIs
      rw [List.all_cons, decide_eq_true hd]
      rfl
    rw [this, one_other h0 h1]
theorem len_alone (n : Nat) (h : n ≤ top) : lenOk [decS n] = true ∧ lenN [decS n] = n := by
  have hd := num_decS n h
  have h1 : lenOk [decS n] = true := by
    rw [lenOk_cons (by simp)]
    unfold oneIs
    simp [firstN, hd.1]
  exact ⟨h1, by unfold lenN; rw [h1]; exact hd.2⟩
theorem items_none {A : List (ByteArray × ByteArray)} {n : ByteArray} (h : toldB A n = false) : itemsS A n = [] := by
  unfold toldB at h
  have : allS A n = [] := List.eq_nil_of_length_eq_zero (by have := of_decide_eq_false h; omega)
  unfold itemsS
  rw [this]
  rfl
/-- No two readings. -/
theorem one_reading (A : List (ByteArray × ByteArray)) (m : Int) (n : Nat) (front : Bool) (h : n ≤ top) (h0 : (reqO A true m).e = 0) :
    ((reqO A true m).k = 3 → (reqO (withN A n front) true m).e = 91) ∧
    ((reqO A true m).k = 2 → ((reqO (withN A n front) true m).e = if (reqO A true m).n = n then 0 else 90)) ∧
    ((reqO A true m).k ≠ 3 → (reqO A true m).k ≠ 2 → (reqO (withN A n front) true m).e = 0 ∧ (reqO (withN A n front) true m).k = 2 ∧ (reqO (withN A n front) true m).n = n) := by
  unfold reqO at h0 ⊢
  rw [if_pos rfl] at h0 ⊢
  rw [if_pos rfl]
  have hw : toldO (withN A n front) m 1 (keepB (withN A n front) m) = if toldB A teS then ⟨0, 0, false, 91⟩ else if !lenOk (itemsS (withN A n front) clS) then ⟨0, 0, false, 90⟩ else ⟨2, (lenN (itemsS (withN A n front) clS) : Nat), keepB A m, 0⟩ := by
    unfold toldO
    rw [told_te, told_cl, keep_with]
    cases toldB A teS <;> simp
  rw [hw, items_with A n front h]
  unfold toldO at h0 ⊢
  cases hte : toldB A teS <;> cases hcl : toldB A clS <;> simp only [hte, hcl, Bool.and_true, Bool.and_false, Bool.false_eq_true, if_false, if_true, Bool.true_and, Bool.false_and] at h0 ⊢
  · have hi := items_none hcl
    rw [hi]
    have hal := len_alone n h
    refine ⟨fun hh => by simp at hh, fun hh => by simp at hh, fun _ _ => ?_⟩
    cases front <;> simp [hal.1, hal.2]
  · cases hlo : lenOk (itemsS A clS) <;> simp only [hlo, Bool.not_true, Bool.not_false, if_true, Bool.false_eq_true, if_false] at h0 ⊢
    · simp at h0
    · refine ⟨fun hh => by simp at hh, fun _ => ?_, fun _ hh => by simp at hh⟩
      rw [len_with _ n front h hlo]
      by_cases he : lenN (itemsS A clS) = n
      · simp [he]
      · have he2 : ¬ ((lenN (itemsS A clS) : Int) = (n : Int)) := by omega
        simp [he, he2]
  · cases hco : codeOk A m <;> simp only [hco, Bool.not_true, Bool.not_false, if_true, Bool.false_eq_true, if_false] at h0 ⊢
    · simp at h0
    · exact ⟨fun _ => trivial, fun hh => by simp at hh, fun hh => by simp at hh⟩
  · simp at h0
end Go.Proofs.YtcagjipdldlehaaGreatDoor
/- Keep: the program's, the document's. -/
namespace Go.Proofs.YtcagjipdldlehaaGreatDoor
open Go.ChangeShapes Go.WideShapes Go.ChangeAt Go.RowKit

theorem keep_any (w : World) (r : Bool) (me ta : ByteArray) (mi st : Int) (re : ByteArray) (l : Value) (A : List (ByteArray × ByteArray)) (hA : Flds w l A) (hs : Sm A) :
    Calls Tryz.prog 92 #[.agg (hdC r me ta mi st re l)] w fun e w' => e = .returned (.bool (keepB A mi)) ∧ Below w.heap.size w w' := by
  have H1 := hide (fun W h => has_any W l A coS shutS h hs (by decide) (by decide))
  have H2 := hide (fun W h => has_any W l A coS kaS h hs (by decide) (by decide))
  have F0 := hide hA
  obtain ⟨a0, c0, rfl, _, _⟩ := hA
  unfold keepB hdC
  generalize hasB A coS shutS = b1 at H1 ⊢
  generalize hasB A coS kaS = b2 at H2 ⊢
  unfold coS shutS at H1
  unfold coS kaS at H2
  clear hs
  go_enter Tryz.func92, Tryz.ntmps92
  go_wp2_with fail
  have T0 := hide (Bl.one w #[.bool r, .string me, .string ta, .int .i64 mi, .int .i64 st, .string re, .slice a0 A.length c0] 45)
  generalize (w.alloc (.cells #[.bool r, .string me, .string ta, .int .i64 mi, .int .i64 st, .string re, .slice a0 A.length c0] 45)) = x at T0 ⊢
  refine (H1.out _ (F0.out.below T0.out.b)).mono ?_
  rintro e w1 ⟨rfl, bb⟩
  have T1 := hide (T0.out.below bb)
  have r3 : w1.cell? ⟨w.heap.size, 3, none⟩ = some (.int .i64 mi) := T1.out.cell 0 rfl 3
  have r6 : w1.cell? ⟨w.heap.size, 6, none⟩ = some (.slice a0 A.length c0) := T1.out.cell 0 rfl 6
  clear bb T0 H1
  cases b1
  · by_cases m0 : mi = 0
    · subst m0
      go_wp2_with fail
      refine (H2.out _ (F0.out.below T1.out.b)).mono ?_
      rintro e w2 ⟨rfl, bb⟩
      have T2 := hide (T1.out.below bb)
      clear bb T1
      go_wp2
      go_ret
      exact ⟨rfl, T2.out.b⟩
    · have t0 : (mi == 0) = false := beq_eq_false_iff_ne.2 m0
      by_cases m1 : mi = 1
      · subst m1
        clear m0 t0
        go_wp2
        go_ret
        exact ⟨rfl, T1.out.b⟩
      · have t1 : (mi == 1) = false := beq_eq_false_iff_ne.2 m1
        go_wp2
        go_ret
        exact ⟨rfl, T1.out.b⟩
  · go_wp2
    go_ret
    exact ⟨rfl, T1.out.b⟩
theorem rkeep_any (w : World) (r : Bool) (me ta : ByteArray) (mi st : Int) (re : ByteArray) (l : Value) (A : List (ByteArray × ByteArray)) (hA : Flds w l A) (hs : Sm A) :
    Calls Tryz.prog 70 #[.agg (hdC r me ta mi st re l)] w fun e w' => e = .returned (.bool (keepB A mi)) ∧ Below w.heap.size w w' := by
  have H1 := hide (fun W h => rhas_any W l A coS shutS h hs (by decide) (by decide))
  have H2 := hide (fun W h => rhas_any W l A coS kaS h hs (by decide) (by decide))
  have F0 := hide hA
  obtain ⟨a0, c0, rfl, _, _⟩ := hA
  unfold keepB hdC
  generalize hasB A coS shutS = b1 at H1 ⊢
  generalize hasB A coS kaS = b2 at H2 ⊢
  unfold coS shutS at H1
  unfold coS kaS at H2
  clear hs
  go_enter Tryz.func70, Tryz.ntmps70
  go_wp2_with fail
  have T0 := hide (Bl.one w #[.bool r, .string me, .string ta, .int .i64 mi, .int .i64 st, .string re, .slice a0 A.length c0] 45)
  generalize (w.alloc (.cells #[.bool r, .string me, .string ta, .int .i64 mi, .int .i64 st, .string re, .slice a0 A.length c0] 45)) = x at T0 ⊢
  refine (H1.out _ (F0.out.below T0.out.b)).mono ?_
  rintro e w1 ⟨rfl, bb⟩
  have T1 := hide (T0.out.below bb)
  have r3 : w1.cell? ⟨w.heap.size, 3, none⟩ = some (.int .i64 mi) := T1.out.cell 0 rfl 3
  have r6 : w1.cell? ⟨w.heap.size, 6, none⟩ = some (.slice a0 A.length c0) := T1.out.cell 0 rfl 6
  clear bb T0 H1
  by_cases m1 : mi = 1
  · subst m1
    cases b1
    all_goals
      go_wp2
      go_ret
      exact ⟨rfl, T1.out.b⟩
  · have t1 : (mi == 1) = false := beq_eq_false_iff_ne.2 m1
    by_cases m0 : mi = 0
    · subst m0
      clear m1 t1
      cases b1
      · go_wp2_with fail
        refine (H2.out _ (F0.out.below T1.out.b)).mono ?_
        rintro e w2 ⟨rfl, bb⟩
        have T2 := hide (T1.out.below bb)
        clear bb T1
        go_wp2
        go_ret
        exact ⟨rfl, T2.out.b⟩
      · go_wp2
        go_ret
        exact ⟨rfl, T1.out.b⟩
    · have t0 : (mi == 0) = false := beq_eq_false_iff_ne.2 m0
      cases b1
      · go_wp2
        go_ret
        exact ⟨rfl, T1.out.b⟩
      · go_wp2
        go_ret
        exact ⟨rfl, T1.out.b⟩
end Go.Proofs.YtcagjipdldlehaaGreatDoor
/- A head's length; whether its coding is right. -/
namespace Go.Proofs.YtcagjipdldlehaaGreatDoor
open Go.ChangeShapes Go.WideShapes Go.ChangeAt Go.RowKit

set_option maxHeartbeats 1000000 in
theorem equal_any (w : World) (a b : Value) (A B : List ByteArray) (hA : Strs w a A) (hB : Strs w b B) (hl : A.length ≤ 1099511627776) (hl2 : B.length ≤ 1099511627776) :
    Calls Tryz.prog 156 #[a, b] w fun e w' => e = .returned (.bool (decide (A = B))) ∧ Below w.heap.size w w' := by
  obtain ⟨a0, c0, rfl, hca⟩ := hA
  obtain ⟨b0, d0, rfl, hcb⟩ := hB
  have HA := hide hca
  have HB := hide hcb
  clear hca hcb
  by_cases hn : A.length = B.length
  · have t : ((A.length : Int) != (B.length : Int)) = false := by rw [bne_eq_false_iff_eq]; omega
    have HL := hide hn
    have hl3 : B.length ≤ A.length := by omega
    have hl4 : A.length ≤ B.length := by omega
    clear hn
    go_enter Tryz.func156, Tryz.ntmps156
    go_wp2
    go_loopw [13] (fun i wr => ∃ k : Nat, k ≤ A.length ∧ i = .int .i64 k ∧ Hid (A.take k = B.take k) ∧ Hid (∃ n, wr = w.drewN n)) (fun i _ => A.length - (intOf i).toNat)
    case atStart => exact ⟨0, Nat.zero_le _, rfl, hide rfl, hide ⟨0, rfl⟩⟩
    case round =>
      obtain ⟨k, hk, rfl, H, HW⟩ := hrel
      by_cases hlt : k < A.length
      · have hlb : k < B.length := by omega
        obtain ⟨g, rfl, _, h1⟩ := HA.out k hlt
        obtain ⟨g2, rfl, _, h2⟩ := HB.out k hlb
        obtain ⟨n, hwn⟩ := HW.out
        subst hwn
        have hsa := hide (take_snocA A k hlt)
        have hsb := hide (take_snocA B k hlb)
        have hbe := bytes_eq A[k] B[k]
        obtain ⟨x, hx⟩ : ∃ x, A[k] = x := ⟨_, rfl⟩
        obtain ⟨y, hy⟩ : ∃ y, B[k] = y := ⟨_, rfl⟩
        rw [hx] at h1 hbe
        rw [hy] at h2 hbe
        have HX := hide hx
        have HY := hide hy
        clear hx hy
        by_cases he : x = y
        · have t2 : (x.toList == y.toList) = true := by rw [hbe, decide_eq_true he]
          have HE := hide he
          have HT : Hid (A.take (k + 1) = B.take (k + 1)) := hide (by rw [hsa.out, hsb.out, H.out, HX.out, HY.out, he])
          clear hbe he
          go_wp2
          go_quiet (fail)
          go_wp2
          exact ⟨⟨k + 1, by omega, by go_num, HT, hide ⟨n + nq, rfl⟩⟩, by simp [intOf]; omega⟩
        · have t2 : (x.toList == y.toList) = false := by rw [hbe, decide_eq_false he]
          have HE : Hid (A ≠ B) := hide (by rintro rfl; exact he (HX.out.symm.trans HY.out))
          clear hbe he
          go_wp2
          go_quiet (fail)
          go_wp2
          go_ret
          exact ⟨ret_bool (decide_eq_false HE.out).symm, by rw [World.drewN_drewN]; exact below_drewN w _⟩
      · have HE : Hid (A = B) := hide (by
          have := H.out
          rw [List.take_of_length_le (by omega), List.take_of_length_le (by omega)] at this
          exact this)
        obtain ⟨n, hwn⟩ := HW.out
        subst hwn
        go_wp2
        go_ret
        exact ⟨ret_bool (decide_eq_true HE.out).symm, below_drewN w _⟩
  · have t : ((A.length : Int) != (B.length : Int)) = true := by rw [bne_iff_ne]; omega
    have HE : Hid (A ≠ B) := hide (by rintro rfl; exact hn rfl)
    go_enter Tryz.func156, Tryz.ntmps156
    go_wp2
    go_ret
    exact ⟨ret_bool (decide_eq_false HE.out).symm, Below.refl _ _⟩
theorem strs_one (w : World) (s : ByteArray) : Strs (w.alloc (.cells #[.string s] 9)) (.slice (some ⟨w.heap.size, 0, none⟩) 1 1) [s] := by
  refine ⟨_, 1, rfl, fun j hj => ?_⟩
  have hj0 : j = 0 := by simp at hj; exact hj
  subst hj0
  exact ⟨_, rfl, by simp, by rw [cell_at (hp_new w _)]; rfl⟩
set_option maxHeartbeats 1000000 in
theorem only_any (w : World) (r : Bool) (me ta : ByteArray) (mi st : Int) (re : ByteArray) (l : Value) (A : List (ByteArray × ByteArray)) (hA : Flds w l A) (hs : Sm A) :
    Calls Tryz.prog 130 #[.agg (hdC r me ta mi st re l)] w fun e w' => e = .returned (.bool (codeOk A mi)) ∧ Below w.heap.size w w' := by
  have HI := hide (fun W h => items_any W l A teS h hs (by decide))
  have hL := itemsS_len hs teS
  have F0 := hide hA
  obtain ⟨a0, c0, rfl, _, _⟩ := hA
  unfold codeOk hdC
  generalize itemsS A teS = I at HI hL ⊢
  unfold teS at HI
  clear hs
  by_cases m1 : mi = 1
  · subst m1
    rw [decide_eq_true rfl, Bool.true_and]
    go_enter Tryz.func130, Tryz.ntmps130
    go_wp2_with fail
    have T0 := hide (Bl.one w #[.bool r, .string me, .string ta, .int .i64 1, .int .i64 st, .string re, .slice a0 A.length c0] 45)
    generalize (w.alloc (.cells #[.bool r, .string me, .string ta, .int .i64 1, .int .i64 st, .string re, .slice a0 A.length c0] 45)) = x at T0 ⊢
    refine (HI.out _ (F0.out.below T0.out.b)).mono ?_
    rintro e w1 ⟨v, rfl, hR, bb⟩
    have T1 := hide (T0.out.below bb)
    have S1 := hide (Strs.of_row hR)
    clear bb T0 HI hR
    obtain ⟨a1, c1, rfl, _⟩ := S1.out
    have HE : Hid (∀ W u, Below w1.heap.size w1 W → Strs W u [chS] → Calls Tryz.prog 156 #[.slice a1 I.length c1, u] W fun e w' => e = .returned (.bool (decide (I = [chS]))) ∧ Below W.heap.size W w') :=
      hide (fun W u hb hu => equal_any W _ u I [chS] (S1.out.below hb) hu hL (by simp))
    generalize hd : decide (I = [chS]) = d at HE
    have HD := hide hd
    clear hd
    go_wp2_with fail
    refine (HE.out _ _ ((Below.refl _ w1).alloc (Nat.le_refl _) _) (strs_one w1 chS)).mono ?_
    rintro e w2 ⟨rfl, bb⟩
    have B2 := hide (((Below.refl _ w1).alloc (Nat.le_refl _) (.cells #[.string chS] 9)).trans (bb.mono (by simp)))
    have T2 := hide (T1.out.below B2.out)
    clear bb T1 B2
    go_wp2
    go_ret
    exact ⟨ret_bool HD.out.symm, T2.out.b⟩
  · have t1 : (mi == 1) = false := beq_eq_false_iff_ne.2 m1
    rw [decide_eq_false m1, Bool.false_and]
    clear m1
    go_enter Tryz.func130, Tryz.ntmps130
    go_wp2
    go_ret
    exact ⟨rfl, (Bl.one w _ _).b⟩
set_option maxHeartbeats 1000000 in
theorem olen_any (w : World) (r : Bool) (me ta : ByteArray) (mi st : Int) (re : ByteArray) (l : Value) (A : List (ByteArray × ByteArray)) (hA : Flds w l A) (hs : Sm A) :
    Calls Tryz.prog 129 #[.agg (hdC r me ta mi st re l)] w fun e w' => e = .returned (.tuple #[.int .i64 (lenN (itemsS A clS) : Nat), .bool (lenOk (itemsS A clS))]) ∧ Below w.heap.size w w' := by
  have HI := hide (fun W h => items_any W l A clS h hs (by decide))
  have hL := itemsS_len hs clS
  have HM := hide (fun x (hx : x ∈ itemsS A clS) => itemsV_mem (allS A clS) (fun y hy => allS_mem hs hy) x hx)
  have F0 := hide hA
  obtain ⟨a0, c0, rfl, _, _⟩ := hA
  unfold hdC
  generalize itemsS A clS = I at HI hL HM ⊢
  unfold clS at HI
  clear hs
  have hR : ∃ (n : Nat) (b : Bool), lenN I = n ∧ lenOk I = b := ⟨_, _, rfl, rfl⟩
  obtain ⟨rn, rb, hn, hb⟩ := hR
  rw [hn, hb]
  have HN := hide hn
  have HBk := hide hb
  clear hn hb
  go_enter Tryz.func129, Tryz.ntmps129
  go_wp2_with fail
  have T0 := hide (Bl.one w #[.bool r, .string me, .string ta, .int .i64 mi, .int .i64 st, .string re, .slice a0 A.length c0] 45)
  generalize (w.alloc (.cells #[.bool r, .string me, .string ta, .int .i64 mi, .int .i64 st, .string re, .slice a0 A.length c0] 45)) = x at T0 ⊢
  refine (HI.out _ (F0.out.below T0.out.b)).mono ?_
  rintro e w1 ⟨v, rfl, hRw, bb⟩
  have T1 := hide (T0.out.below bb)
  obtain ⟨a1, c1, rfl, hcv⟩ := Strs.of_row hRw
  have HV := hide hcv
  clear bb T0 HI hRw hcv
  by_cases h0 : I.length = 0
  · have hI0 : I = [] := List.eq_nil_of_length_eq_zero h0
    subst hI0
    clear h0 hL
    go_wp2
    go_ret2
    exact ⟨by rw [← HN.out, ← HBk.out]; rfl, T1.out.b⟩
  · have hpos : 0 < I.length := by omega
    have t0 : ((I.length : Int) == 0) = false := beq_eq_false_iff_ne.2 (by omega)
    obtain ⟨g, rfl, hg, q0⟩ := HV.out 0 hpos
    have hz := HM.out I[0] (List.getElem_mem hpos)
    have HF := hide (firstN_at hpos rfl)
    have HO := hide (lenOk_cons hpos)
    obtain ⟨y, hy⟩ : ∃ y, I[0] = y := ⟨_, rfl⟩
    rw [hy] at q0 hz HF
    clear hy h0
    go_wp2_with fail
    refine (Number_any y w1 (by unfold maxLen; omega)).mono ?_
    rintro e w2 ⟨rfl, rfl⟩
    have hnl := num_topN y.data.toList
    rw [← HF.out] at hnl ⊢
    generalize hfn : firstN I = fn at HO hnl ⊢
    have HFN := hide hfn
    clear hfn HF q0 hz
    generalize numE 10 y.data.toList = ye
    go_wp2
    go_loop [26] (fun i => ∃ k : Nat, k ≤ I.length ∧ i = .int .i64 k ∧ Hid (oneIs (I.take k) fn = true)) (fun i => I.length - (intOf i).toNat)
    case atStart => exact ⟨0, Nat.zero_le _, rfl, hide rfl⟩
    case round =>
      obtain ⟨k, hk, rfl, HK⟩ := hrel
      by_cases hlt : k < I.length
      · obtain ⟨g1, hg1, hgl, r1⟩ := HV.out k hlt
        simp only [Option.some.injEq, Addr.mk.injEq, and_true] at hg1
        subst hg1
        have hz := HM.out I[k] (List.getElem_mem hlt)
        have HNO := hide (fun x hx h => oneIs_no (n := fn) hlt (x := x) hx h)
        have HYE := hide (fun x hx h2 => oneIs_snoc (n := fn) hlt (x := x) hx HK.out h2)
        obtain ⟨x, hx⟩ : ∃ x, I[k] = x := ⟨_, rfl⟩
        rw [hx] at r1 hz
        have HN1 := hide (HNO.out x hx)
        have HY1 := hide (HYE.out x hx)
        clear hx HNO HYE hgl
        go_wp2_with fail
        refine (Number_any x w1 (by unfold maxLen; omega)).mono ?_
        rintro e w2 ⟨rfl, rfl⟩
        have hxl := num_topN x.data.toList
        generalize numE 10 x.data.toList = xe at HN1 HY1 ⊢
        generalize numV 10 x.data.toList = xv at HN1 HY1 hxl ⊢
        clear r1 hz
        by_cases he : xe = 0
        · subst he
          by_cases hv : xv = fn
          · subst hv
            have HK2 := hide (HY1.out ⟨rfl, rfl⟩)
            go_wp2
            exact ⟨⟨k + 1, by omega, by go_num, HK2⟩, by simp [intOf]; omega⟩
          · have t1 : ((xv : Int) != (fn : Int)) = true := bne_iff_ne.2 (by omega)
            have HZ : Hid (oneIs I fn = false) := hide (HN1.out (fun h => hv h.2))
            clear hv
            go_wp2
            go_ret2
            exact ⟨by rw [← HN.out, ← HBk.out]; unfold lenN; rw [HO.out, HZ.out]; rfl, T1.out.b⟩
        · have t1 : ((xe : Int) != 0) = true := bne_iff_ne.2 (by omega)
          have HZ : Hid (oneIs I fn = false) := hide (HN1.out (fun h => he h.1))
          clear he
          go_wp2
          go_ret2
          exact ⟨by rw [← HN.out, ← HBk.out]; unfold lenN; rw [HO.out, HZ.out]; rfl, T1.out.b⟩
      · have HZ : Hid (oneIs I fn = true) := hide (by have := HK.out; rw [List.take_of_length_le (by omega)] at this; exact this)
        go_wp2
        go_ret2
        exact ⟨by rw [← HN.out, ← HBk.out]; unfold lenN; rw [HO.out, HZ.out, HFN.out]; rfl, T1.out.b⟩
end Go.Proofs.YtcagjipdldlehaaGreatDoor
/- told: the program's. -/
namespace Go.Proofs.YtcagjipdldlehaaGreatDoor
open Go.ChangeShapes Go.WideShapes Go.ChangeAt Go.RowKit

set_option maxHeartbeats 2000000 in
theorem told_anyg (w : World) (r : Bool) (me ta : ByteArray) (mi st : Int) (re : ByteArray) (l : Value) (A : List (ByteArray × ByteArray)) (k : Int) (b : Bool) (hA : Flds w l A) (hs : Sm A) :
    Calls Tryz.prog 91 #[.agg (hdC r me ta mi st re l), frVg k 0 b] w fun e w' => e = .returned (foV (toldO A mi k b)) ∧ Below w.heap.size w w' := by
  have HT := hide (fun W h => get_any W l A teS h hs (by decide))
  have HC := hide (fun W h => get_any W l A clS h hs (by decide))
  have HL := hide (fun W h => olen_any W r me ta mi st re l A h hs)
  have HO := hide (fun W h => only_any W r me ta mi st re l A h hs)
  have HK := hide (fun W h => keep_any W r me ta mi st re l A h hs)
  have F0 := hide hA
  have hll := lenN_le (itemsS A clS)
  obtain ⟨a0, c0, rfl, _, _⟩ := hA
  have hR : ∃ o, toldO A mi k b = o := ⟨_, rfl⟩
  obtain ⟨o, ho⟩ := hR
  rw [ho]
  unfold toldO toldB at ho
  have HR := hide ho
  clear ho
  generalize decide (0 < (allS A teS).length) = b1 at HT HR
  generalize decide (0 < (allS A clS).length) = b2 at HC HR
  generalize getS (allS A teS) = g1 at HT
  generalize getS (allS A clS) = g2 at HC
  generalize codeOk A mi = b3 at HO HR
  generalize lenOk (itemsS A clS) = b4 at HL HR
  generalize lenN (itemsS A clS) = ln at HL HR hll
  generalize keepB A mi = b5 at HK HR
  unfold teS at HT
  unfold clS at HC
  unfold hdC at HL HO HK ⊢
  unfold frVg
  clear hs
  go_enter Tryz.func91, Tryz.ntmps91
  go_wp2_with fail
  have T0 := hide (Bl.three w #[.bool r, .string me, .string ta, .int .i64 mi, .int .i64 st, .string re, .slice a0 A.length c0] 45 #[.int .i64 k, .int .i64 0, .bool b] 83 #[.int .i64 0, .int .i64 0, .bool false] 83)
  generalize (((w.alloc (.cells #[.bool r, .string me, .string ta, .int .i64 mi, .int .i64 st, .string re, .slice a0 A.length c0] 45)).alloc (.cells #[.int .i64 k, .int .i64 0, .bool b] 83)).alloc (.cells #[.int .i64 0, .int .i64 0, .bool false] 83)) = x at T0 ⊢
  refine (HT.out _ (F0.out.below T0.out.b)).mono ?_
  rintro e w1 ⟨rfl, bb⟩
  have T1 := hide (T0.out.below bb)
  have r6 : w1.cell? ⟨w.heap.size, 6, none⟩ = some (.slice a0 A.length c0) := T1.out.cell 0 rfl 6
  clear bb T0 HT
  go_wp2_with fail
  refine (HC.out _ (F0.out.below T1.out.b)).mono ?_
  rintro e w2 ⟨rfl, bb⟩
  have T2 := hide (T1.out.below bb)
  clear bb T1 HC r6
  obtain ⟨r0, r1, r2, r3, r4, r5, r6⟩ := T2.out.hd 0 w.heap.size rfl rfl
  go_wp2_with fail
  refine (HL.out _ (F0.out.below T2.out.b)).mono ?_
  rintro e w3 ⟨rfl, bb⟩
  have T3 := hide (T2.out.below bb)
  clear bb T2 HL r0 r1 r2 r3 r4 r5 r6
  cases b1 <;> cases b2
  · obtain ⟨d0, d1, d2, _, _, _⟩ := T3.out.st 1 (w.heap.size + 1) rfl rfl
    obtain ⟨s0, s1, s2, f0, f1, f2⟩ := T3.out.st 2 (w.heap.size + 2) rfl rfl
    go_wp2
    obtain ⟨k0, k1, k2, kb⟩ := st3 T3.out 2 (w.heap.size + 2) rfl rfl (k) (0) b
    generalize ((w3.setCell ⟨w.heap.size + 2, 0, none⟩ (.int .i64 (k))).setCell ⟨w.heap.size + 2, 1, none⟩ (.int .i64 (0))).setCell ⟨w.heap.size + 2, 2, none⟩ (.bool b) = w9 at k0 k1 k2 kb ⊢
    clear s0 s1 s2 f0 f1 f2
    exact bodyPost_ret (v := .tuple #[.agg #[.int .i64 (k), .int .i64 (0), .bool b], .int .i64 (0)]) (by simp [results, Tryz.results91, go_sem, k0, k1, k2]) rfl ⟨by rw [← HR.out]; rfl, kb⟩
  · cases b4
    · obtain ⟨s0, s1, s2, f0, f1, f2⟩ := T3.out.st 2 (w.heap.size + 2) rfl rfl
      go_wp2
      obtain ⟨k0, k1, k2, kb⟩ := st3 T3.out 2 (w.heap.size + 2) rfl rfl (0) (0) false
      generalize ((w3.setCell ⟨w.heap.size + 2, 0, none⟩ (.int .i64 (0))).setCell ⟨w.heap.size + 2, 1, none⟩ (.int .i64 (0))).setCell ⟨w.heap.size + 2, 2, none⟩ (.bool false) = w9 at k0 k1 k2 kb ⊢
      clear s0 s1 s2 f0 f1 f2
      exact bodyPost_ret (v := .tuple #[.agg #[.int .i64 (0), .int .i64 (0), .bool false], .int .i64 (90)]) (by simp [results, Tryz.results91, go_sem, k0, k1, k2]) rfl ⟨by rw [← HR.out]; rfl, kb⟩
    · obtain ⟨r0, r1, r2, r3, r4, r5, r6⟩ := T3.out.hd 0 w.heap.size rfl rfl
      go_wp2_with fail
      refine (HK.out _ (F0.out.below T3.out.b)).mono ?_
      rintro e w4 ⟨rfl, bb⟩
      have T4 := hide (T3.out.below bb)
      clear bb T3 r0 r1 r2 r3 r4 r5 r6
      obtain ⟨s0, s1, s2, f0, f1, f2⟩ := T4.out.st 2 (w.heap.size + 2) rfl rfl
      go_wp2
      obtain ⟨k0, k1, k2, kb⟩ := st3 T4.out 2 (w.heap.size + 2) rfl rfl (2) ((ln : Int)) b5
      generalize ((w4.setCell ⟨w.heap.size + 2, 0, none⟩ (.int .i64 (2))).setCell ⟨w.heap.size + 2, 1, none⟩ (.int .i64 ((ln : Int)))).setCell ⟨w.heap.size + 2, 2, none⟩ (.bool b5) = w9 at k0 k1 k2 kb ⊢
      clear s0 s1 s2 f0 f1 f2
      exact bodyPost_ret (v := .tuple #[.agg #[.int .i64 (2), .int .i64 ((ln : Int)), .bool b5], .int .i64 (0)]) (by simp [results, Tryz.results91, go_sem, k0, k1, k2]) rfl ⟨by rw [← HR.out]; rfl, kb⟩
  · obtain ⟨r0, r1, r2, r3, r4, r5, r6⟩ := T3.out.hd 0 w.heap.size rfl rfl
    go_wp2_with fail
    refine (HO.out _ (F0.out.below T3.out.b)).mono ?_
    rintro e w4 ⟨rfl, bb⟩
    have T4 := hide (T3.out.below bb)
    clear bb T3 r0 r1 r2 r3 r4 r5 r6
    cases b3
    · obtain ⟨s0, s1, s2, f0, f1, f2⟩ := T4.out.st 2 (w.heap.size + 2) rfl rfl
      go_wp2
      obtain ⟨k0, k1, k2, kb⟩ := st3 T4.out 2 (w.heap.size + 2) rfl rfl (0) (0) false
      generalize ((w4.setCell ⟨w.heap.size + 2, 0, none⟩ (.int .i64 (0))).setCell ⟨w.heap.size + 2, 1, none⟩ (.int .i64 (0))).setCell ⟨w.heap.size + 2, 2, none⟩ (.bool false) = w9 at k0 k1 k2 kb ⊢
      clear s0 s1 s2 f0 f1 f2
      exact bodyPost_ret (v := .tuple #[.agg #[.int .i64 (0), .int .i64 (0), .bool false], .int .i64 (92)]) (by simp [results, Tryz.results91, go_sem, k0, k1, k2]) rfl ⟨by rw [← HR.out]; rfl, kb⟩
    · obtain ⟨r0, r1, r2, r3, r4, r5, r6⟩ := T4.out.hd 0 w.heap.size rfl rfl
      go_wp2_with fail
      refine (HK.out _ (F0.out.below T4.out.b)).mono ?_
      rintro e w5 ⟨rfl, bb⟩
      have T5 := hide (T4.out.below bb)
      clear bb T4 r0 r1 r2 r3 r4 r5 r6
      obtain ⟨s0, s1, s2, f0, f1, f2⟩ := T5.out.st 2 (w.heap.size + 2) rfl rfl
      go_wp2
      obtain ⟨k0, k1, k2, kb⟩ := st3 T5.out 2 (w.heap.size + 2) rfl rfl (3) (0) b5
      generalize ((w5.setCell ⟨w.heap.size + 2, 0, none⟩ (.int .i64 (3))).setCell ⟨w.heap.size + 2, 1, none⟩ (.int .i64 (0))).setCell ⟨w.heap.size + 2, 2, none⟩ (.bool b5) = w9 at k0 k1 k2 kb ⊢
      clear s0 s1 s2 f0 f1 f2
      exact bodyPost_ret (v := .tuple #[.agg #[.int .i64 (3), .int .i64 (0), .bool b5], .int .i64 (0)]) (by simp [results, Tryz.results91, go_sem, k0, k1, k2]) rfl ⟨by rw [← HR.out]; rfl, kb⟩
  · obtain ⟨s0, s1, s2, f0, f1, f2⟩ := T3.out.st 2 (w.heap.size + 2) rfl rfl
    go_wp2
    obtain ⟨k0, k1, k2, kb⟩ := st3 T3.out 2 (w.heap.size + 2) rfl rfl (0) (0) false
    generalize ((w3.setCell ⟨w.heap.size + 2, 0, none⟩ (.int .i64 (0))).setCell ⟨w.heap.size + 2, 1, none⟩ (.int .i64 (0))).setCell ⟨w.heap.size + 2, 2, none⟩ (.bool false) = w9 at k0 k1 k2 kb ⊢
    clear s0 s1 s2 f0 f1 f2
    exact bodyPost_ret (v := .tuple #[.agg #[.int .i64 (0), .int .i64 (0), .bool false], .int .i64 (91)]) (by simp [results, Tryz.results91, go_sem, k0, k1, k2]) rfl ⟨by rw [← HR.out]; rfl, kb⟩
end Go.Proofs.YtcagjipdldlehaaGreatDoor
/- told: the document's. -/
namespace Go.Proofs.YtcagjipdldlehaaGreatDoor
open Go.ChangeShapes Go.WideShapes Go.ChangeAt Go.RowKit

theorem code_yes {I : List ByteArray} (h1 : 0 < I.length) (h2 : I.length ≤ 1) (h3 : I[0] = chS) : decide (I = [chS]) = true := by
  match I, h1, h2, h3 with
  | [x], _, _, h3 => simp at h3; subst h3; exact decide_eq_true rfl
theorem code_len {I : List ByteArray} (h : I.length ≠ 1) : decide (I = [chS]) = false := decide_eq_false (by rintro rfl; exact h rfl)
theorem code_no {I : List ByteArray} (h1 : 0 < I.length) (h3 : I[0] ≠ chS) : decide (I = [chS]) = false := decide_eq_false (by rintro rfl; exact h3 rfl)
set_option maxHeartbeats 4000000 in
theorem rtold_any (w : World) (r : Bool) (me ta : ByteArray) (mi st : Int) (re : ByteArray) (l : Value) (A : List (ByteArray × ByteArray)) (k : Int) (hA : Flds w l A) (hs : Sm A) :
    Calls Tryz.prog 49 #[.agg (hdC r me ta mi st re l), .int .i64 k] w fun e w' => e = .returned (foV (toldO A mi k (keepB A mi && (k != 4)))) ∧ Below w.heap.size w w' := by
  have HT := hide (fun W h => rget_any W l A teS h hs (by decide))
  have HC := hide (fun W h => rget_any W l A clS h hs (by decide))
  have HIT := hide (fun W h => ritems_any W l A teS h hs (by decide))
  have HIC := hide (fun W h => ritems_any W l A clS h hs (by decide))
  have HM := hide (fun x (hx : x ∈ itemsS A clS) => itemsV_mem (allS A clS) (fun y hy => allS_mem hs hy) x hx)
  have HK := hide (fun W h => rkeep_any W r me ta mi st re l A h hs)
  have F0 := hide hA
  have hL1 := itemsS_len hs teS
  have hL2 := itemsS_len hs clS
  obtain ⟨a0, c0, rfl, _, _⟩ := hA
  have hR : ∃ o, toldO A mi k (keepB A mi && (k != 4)) = o := ⟨_, rfl⟩
  obtain ⟨o, ho⟩ := hR
  rw [ho]
  unfold toldO toldB codeOk at ho
  have HR := hide ho
  clear ho
  generalize decide (0 < (allS A teS).length) = b1 at HT HR
  generalize decide (0 < (allS A clS).length) = b2 at HC HR
  generalize getS (allS A teS) = g1 at HT
  generalize getS (allS A clS) = g2 at HC
  generalize itemsS A teS = I1 at HIT HR hL1
  generalize itemsS A clS = I2 at HIC HR HM hL2
  generalize keepB A mi = b5 at HK HR
  unfold teS at HT HIT
  unfold clS at HC HIC
  unfold hdC at HK ⊢
  clear hs
  go_enter Tryz.func49, Tryz.ntmps49
  go_wp2_with fail
  have T0 := hide (Bl.two w #[.bool r, .string me, .string ta, .int .i64 mi, .int .i64 st, .string re, .slice a0 A.length c0] 45 #[.int .i64 0, .int .i64 0, .bool false] 83)
  generalize ((w.alloc (.cells #[.bool r, .string me, .string ta, .int .i64 mi, .int .i64 st, .string re, .slice a0 A.length c0] 45)).alloc (.cells #[.int .i64 0, .int .i64 0, .bool false] 83)) = x at T0 ⊢
  refine (HT.out _ (F0.out.below T0.out.b)).mono ?_
  rintro e w1 ⟨rfl, bb⟩
  have T1 := hide (T0.out.below bb)
  have r6 : w1.cell? ⟨w.heap.size, 6, none⟩ = some (.slice a0 A.length c0) := T1.out.cell 0 rfl 6
  clear bb T0 HT
  go_wp2_with fail
  refine (HC.out _ (F0.out.below T1.out.b)).mono ?_
  rintro e w2 ⟨rfl, bb⟩
  have T2 := hide (T1.out.below bb)
  clear bb T1 HC r6
  cases b1
  · cases b2
    · -- neither
      obtain ⟨r0, r1, r2, r3, r4, r5, r6⟩ := T2.out.hd 0 w.heap.size rfl rfl
      go_wp2_with fail
      refine (HK.out _ (F0.out.below T2.out.b)).mono ?_
      rintro e w4 ⟨rfl, bb⟩
      have T4 := hide (T2.out.below bb)
      clear bb T2 r0 r1 r2 r3 r4 r5 r6
      obtain ⟨s0, s1, s2, f0, f1, f2⟩ := T4.out.st 1 (w.heap.size + 1) rfl rfl
      cases b5
      · go_wp2
        obtain ⟨k0, k1, k2, kb⟩ := st3 T4.out 1 (w.heap.size + 1) rfl rfl (k) (0) false
        generalize ((w4.setCell ⟨w.heap.size + 1, 0, none⟩ (.int .i64 (k))).setCell ⟨w.heap.size + 1, 1, none⟩ (.int .i64 (0))).setCell ⟨w.heap.size + 1, 2, none⟩ (.bool false) = w9 at k0 k1 k2 kb ⊢
        clear s0 s1 s2 f0 f1 f2
        exact bodyPost_ret (v := .tuple #[.agg #[.int .i64 (k), .int .i64 (0), .bool false], .int .i64 (0)]) (by simp [results, Tryz.results49, go_sem, k0, k1, k2]) rfl ⟨by rw [← HR.out]; rfl, kb⟩
      · go_wp2
        obtain ⟨k0, k1, k2, kb⟩ := st3 T4.out 1 (w.heap.size + 1) rfl rfl (k) (0) (k != 4)
        generalize ((w4.setCell ⟨w.heap.size + 1, 0, none⟩ (.int .i64 (k))).setCell ⟨w.heap.size + 1, 1, none⟩ (.int .i64 (0))).setCell ⟨w.heap.size + 1, 2, none⟩ (.bool (k != 4)) = w9 at k0 k1 k2 kb ⊢
        clear s0 s1 s2 f0 f1 f2
        exact bodyPost_ret (v := .tuple #[.agg #[.int .i64 (k), .int .i64 (0), .bool (k != 4)], .int .i64 (0)]) (by simp [results, Tryz.results49, go_sem, k0, k1, k2]) rfl ⟨by rw [← HR.out]; rfl, kb⟩
    · -- a length
      have r6 : w2.cell? ⟨w.heap.size, 6, none⟩ = some (.slice a0 A.length c0) := T2.out.cell 0 rfl 6
      go_wp2_with fail
      refine (HIC.out _ (F0.out.below T2.out.b)).mono ?_
      rintro e w3 ⟨v, rfl, hRw, bb⟩
      have T3 := hide (T2.out.below bb)
      obtain ⟨a1, c1, rfl, hcv⟩ := Strs.of_row hRw
      have HV := hide hcv
      clear bb T2 HIC hRw hcv r6
      have HFN : Hid (firstN I2 ≤ 9007199254740992) := hide (by
        cases I2 with
        | nil => simp [firstN]
        | cons x r => exact num_topN _)
      have HF0 := hide (fun (h : 0 < I2.length) x (hx : I2[0] = x) => firstN_at h hx)
      have HO := hide (fun (h : 0 < I2.length) => lenOk_cons h)
      generalize hfn : firstN I2 = fn at HFN HF0 HO
      have HFE := hide hfn
      clear hfn
      go_wp2
      go_loop [71, 12] (fun i n => ∃ (k : Nat) (m : Int), k ≤ I2.length ∧ i = .int .i64 k ∧ n = .int .i64 m ∧ Hid (m = if k = 0 then -1 else (fn : Int)) ∧ Hid (oneIs (I2.take k) fn = true)) (fun i _ => I2.length - (intOf i).toNat)
      case atStart => exact ⟨0, -1, Nat.zero_le _, rfl, rfl, hide rfl, hide rfl⟩
      case round =>
        obtain ⟨k, m, hk, rfl, rfl, Hm, HKk⟩ := hrel
        have hfl := HFN.out
        by_cases hlt : k < I2.length
        · obtain ⟨g, rfl, hgl, q1⟩ := HV.out k hlt
          have hz := HM.out I2[k] (List.getElem_mem hlt)
          have HNO := hide (fun x hx h => oneIs_no (n := fn) hlt (x := x) hx h)
          have HYE := hide (fun x hx h2 => oneIs_snoc (n := fn) hlt (x := x) hx HKk.out h2)
          have HZE : Hid (k = 0 → ∀ x, I2[k] = x → fn = numV 10 x.data.toList) := hide (by intro h0 x hx; subst h0; exact HF0.out hlt x hx)
          obtain ⟨x, hx⟩ : ∃ x, I2[k] = x := ⟨_, rfl⟩
          rw [hx] at q1 hz
          have HN1 := hide (HNO.out x hx)
          have HY1 := hide (HYE.out x hx)
          have HZ1 := hide (fun h0 => HZE.out h0 x hx)
          clear hx HNO HYE HZE hgl
          have hpos : 0 < I2.length := by omega
          have HLO := hide (HO.out hpos)
          go_wp2_with fail
          refine (rnumber_10 x w3 (by unfold maxLen; omega)).mono ?_
          rintro e w4 ⟨rfl, rfl⟩
          have hxl := num_topN x.data.toList
          generalize numE 10 x.data.toList = xe at HN1 HY1 ⊢
          generalize numV 10 x.data.toList = xv at HN1 HY1 HZ1 hxl ⊢
          clear q1 hz
          obtain ⟨s0, s1, s2, f0, f1, f2⟩ := T3.out.st 1 (w.heap.size + 1) rfl rfl
          by_cases he : xe = 0
          · subst he
            by_cases h0 : k = 0
            · have hmm : m = -1 := by rw [Hm.out, if_pos h0]
              have hxf := HZ1.out h0
              subst hmm hxf
              have HK2 := hide (HY1.out ⟨rfl, rfl⟩)
              go_wp2
              exact ⟨⟨k + 1, _, by omega, by go_num, rfl, hide (by rw [if_neg (by omega)]), HK2⟩, by simp [intOf]; omega⟩
            · have hmm : m = (fn : Int) := by rw [Hm.out, if_neg h0]
              subst hmm
              by_cases hv : xv = fn
              · subst hv
                have HK2 := hide (HY1.out ⟨rfl, rfl⟩)
                go_wp2
                exact ⟨⟨k + 1, _, by omega, by go_num, rfl, hide (by rw [if_neg (by omega)]), HK2⟩, by simp [intOf]; omega⟩
              · have t1 : ((xv : Int) != (fn : Int)) = true := bne_iff_ne.2 (by omega)
                have HZ : Hid (oneIs I2 fn = false) := hide (HN1.out (fun h => hv h.2))
                clear hv
                go_wp2
                obtain ⟨k0, k1, k2, kb⟩ := st3 T3.out 1 (w.heap.size + 1) rfl rfl (0) (0) false
                generalize ((w3.setCell ⟨w.heap.size + 1, 0, none⟩ (.int .i64 (0))).setCell ⟨w.heap.size + 1, 1, none⟩ (.int .i64 (0))).setCell ⟨w.heap.size + 1, 2, none⟩ (.bool false) = w9 at k0 k1 k2 kb ⊢
                clear s0 s1 s2 f0 f1 f2
                exact bodyPost_ret (v := .tuple #[.agg #[.int .i64 (0), .int .i64 (0), .bool false], .int .i64 (90)]) (by simp [results, Tryz.results49, go_sem, k0, k1, k2]) rfl ⟨by rw [← HR.out, HLO.out, HZ.out]; rfl, kb⟩
          · have t1 : ((xe : Int) != 0) = true := bne_iff_ne.2 (by omega)
            have HZ : Hid (oneIs I2 fn = false) := hide (HN1.out (fun h => he h.1))
            clear he
            go_wp2
            obtain ⟨k0, k1, k2, kb⟩ := st3 T3.out 1 (w.heap.size + 1) rfl rfl (0) (0) false
            generalize ((w3.setCell ⟨w.heap.size + 1, 0, none⟩ (.int .i64 (0))).setCell ⟨w.heap.size + 1, 1, none⟩ (.int .i64 (0))).setCell ⟨w.heap.size + 1, 2, none⟩ (.bool false) = w9 at k0 k1 k2 kb ⊢
            clear s0 s1 s2 f0 f1 f2
            exact bodyPost_ret (v := .tuple #[.agg #[.int .i64 (0), .int .i64 (0), .bool false], .int .i64 (90)]) (by simp [results, Tryz.results49, go_sem, k0, k1, k2]) rfl ⟨by rw [← HR.out, HLO.out, HZ.out]; rfl, kb⟩
        · have HZ : Hid (oneIs I2 fn = true) := hide (by have := HKk.out; rw [List.take_of_length_le (by omega)] at this; exact this)
          by_cases h0 : k = 0
          · have hmm : m = -1 := by rw [Hm.out, if_pos h0]
            subst hmm
            have HI0 : Hid (I2 = []) := hide (List.eq_nil_of_length_eq_zero (by omega))
            obtain ⟨s0, s1, s2, f0, f1, f2⟩ := T3.out.st 1 (w.heap.size + 1) rfl rfl
            go_wp2
            obtain ⟨k0, k1, k2, kb⟩ := st3 T3.out 1 (w.heap.size + 1) rfl rfl (0) (0) false
            generalize ((w3.setCell ⟨w.heap.size + 1, 0, none⟩ (.int .i64 (0))).setCell ⟨w.heap.size + 1, 1, none⟩ (.int .i64 (0))).setCell ⟨w.heap.size + 1, 2, none⟩ (.bool false) = w9 at k0 k1 k2 kb ⊢
            clear s0 s1 s2 f0 f1 f2
            exact bodyPost_ret (v := .tuple #[.agg #[.int .i64 (0), .int .i64 (0), .bool false], .int .i64 (90)]) (by simp [results, Tryz.results49, go_sem, k0, k1, k2]) rfl ⟨by rw [← HR.out, HI0.out]; rfl, kb⟩
          · have hmm : m = (fn : Int) := by rw [Hm.out, if_neg h0]
            subst hmm
            have HLO := hide (HO.out (by omega))
            obtain ⟨r0, r1, r2, r3, r4, r5, r6⟩ := T3.out.hd 0 w.heap.size rfl rfl
            go_wp2_with fail
            refine (HK.out _ (F0.out.below T3.out.b)).mono ?_
            rintro e w4 ⟨rfl, bb⟩
            have T4 := hide (T3.out.below bb)
            clear bb T3 r0 r1 r2 r3 r4 r5 r6
            obtain ⟨s0, s1, s2, f0, f1, f2⟩ := T4.out.st 1 (w.heap.size + 1) rfl rfl
            go_wp2
            obtain ⟨k0, k1, k2, kb⟩ := st3 T4.out 1 (w.heap.size + 1) rfl rfl (2) ((fn : Int)) b5
            generalize ((w4.setCell ⟨w.heap.size + 1, 0, none⟩ (.int .i64 (2))).setCell ⟨w.heap.size + 1, 1, none⟩ (.int .i64 ((fn : Int)))).setCell ⟨w.heap.size + 1, 2, none⟩ (.bool b5) = w9 at k0 k1 k2 kb ⊢
            clear s0 s1 s2 f0 f1 f2
            exact bodyPost_ret (v := .tuple #[.agg #[.int .i64 (2), .int .i64 ((fn : Int)), .bool b5], .int .i64 (0)]) (by simp [results, Tryz.results49, go_sem, k0, k1, k2]) rfl ⟨by rw [← HR.out]; unfold lenN; rw [HLO.out, HZ.out, HFE.out]; rfl, kb⟩
  · cases b2
    · -- a coding
      have r6 : w2.cell? ⟨w.heap.size, 6, none⟩ = some (.slice a0 A.length c0) := T2.out.cell 0 rfl 6
      go_wp2_with fail
      refine (HIT.out _ (F0.out.below T2.out.b)).mono ?_
      rintro e w3 ⟨v, rfl, hRw, bb⟩
      have T3 := hide (T2.out.below bb)
      obtain ⟨a1, c1, rfl, hcv⟩ := Strs.of_row hRw
      have HV := hide hcv
      clear bb T2 HIT hRw hcv r6
      obtain ⟨r0, r1, r2, r3, r4, r5, r6⟩ := T3.out.hd 0 w.heap.size rfl rfl
      obtain ⟨s0, s1, s2, f0, f1, f2⟩ := T3.out.st 1 (w.heap.size + 1) rfl rfl
      by_cases m1 : mi = 1
      · subst m1
        by_cases h1 : I1.length = 1
        · have hpos : 0 < I1.length := by omega
          obtain ⟨g, rfl, hgl, q1⟩ := HV.out 0 hpos
          have HY := hide (code_yes hpos (by omega))
          have HN := hide (code_no hpos)
          have t1 : ((I1.length : Int) != 1) = false := bne_eq_false_iff_eq.2 (by omega)
          obtain ⟨x, hx⟩ : ∃ x, I1[0] = x := ⟨_, rfl⟩
          rw [hx] at q1 HY HN
          clear hx h1 hgl
          have hb := bytes_eq x chS
          rw [show chS.toList = [99, 104, 117, 110, 107, 101, 100] by rw [Lib.toList_data]; rfl] at hb
          by_cases hc : x = chS
          · have t2 : (x.toList == [99, 104, 117, 110, 107, 101, 100]) = true := by rw [hb]; exact decide_eq_true hc
            have HD := hide (HY.out hc)
            clear hb hc HY HN
            go_wp2_with fail
            refine (HK.out _ (F0.out.below T3.out.b)).mono ?_
            rintro e w4 ⟨rfl, bb⟩
            have T4 := hide (T3.out.below bb)
            clear bb T3 r0 r1 r2 r3 r4 r5 r6 s0 s1 s2 f0 f1 f2
            obtain ⟨s0, s1, s2, f0, f1, f2⟩ := T4.out.st 1 (w.heap.size + 1) rfl rfl
            go_wp2
            obtain ⟨k0, k1, k2, kb⟩ := st3 T4.out 1 (w.heap.size + 1) rfl rfl (3) (0) b5
            generalize ((w4.setCell ⟨w.heap.size + 1, 0, none⟩ (.int .i64 (3))).setCell ⟨w.heap.size + 1, 1, none⟩ (.int .i64 (0))).setCell ⟨w.heap.size + 1, 2, none⟩ (.bool b5) = w9 at k0 k1 k2 kb ⊢
            clear s0 s1 s2 f0 f1 f2
            exact bodyPost_ret (v := .tuple #[.agg #[.int .i64 (3), .int .i64 (0), .bool b5], .int .i64 (0)]) (by simp [results, Tryz.results49, go_sem, k0, k1, k2]) rfl ⟨by rw [← HR.out, HD.out]; rfl, kb⟩
          · have t2 : (x.toList == [99, 104, 117, 110, 107, 101, 100]) = false := by rw [hb]; exact decide_eq_false hc
            have HD := hide (HN.out hc)
            clear hb hc HY HN
            go_wp2
            obtain ⟨k0, k1, k2, kb⟩ := st3 T3.out 1 (w.heap.size + 1) rfl rfl (0) (0) false
            generalize ((w3.setCell ⟨w.heap.size + 1, 0, none⟩ (.int .i64 (0))).setCell ⟨w.heap.size + 1, 1, none⟩ (.int .i64 (0))).setCell ⟨w.heap.size + 1, 2, none⟩ (.bool false) = w9 at k0 k1 k2 kb ⊢
            clear s0 s1 s2 f0 f1 f2
            exact bodyPost_ret (v := .tuple #[.agg #[.int .i64 (0), .int .i64 (0), .bool false], .int .i64 (92)]) (by simp [results, Tryz.results49, go_sem, k0, k1, k2]) rfl ⟨by rw [← HR.out, HD.out]; rfl, kb⟩
        · have t1 : ((I1.length : Int) != 1) = true := bne_iff_ne.2 (by omega)
          have HD := hide (code_len h1)
          clear h1
          go_wp2
          obtain ⟨k0, k1, k2, kb⟩ := st3 T3.out 1 (w.heap.size + 1) rfl rfl (0) (0) false
          generalize ((w3.setCell ⟨w.heap.size + 1, 0, none⟩ (.int .i64 (0))).setCell ⟨w.heap.size + 1, 1, none⟩ (.int .i64 (0))).setCell ⟨w.heap.size + 1, 2, none⟩ (.bool false) = w9 at k0 k1 k2 kb ⊢
          clear s0 s1 s2 f0 f1 f2
          exact bodyPost_ret (v := .tuple #[.agg #[.int .i64 (0), .int .i64 (0), .bool false], .int .i64 (92)]) (by simp [results, Tryz.results49, go_sem, k0, k1, k2]) rfl ⟨by rw [← HR.out, HD.out]; rfl, kb⟩
      · have t1 : (mi != 1) = true := bne_iff_ne.2 m1
        have HD := hide m1
        clear m1
        go_wp2
        obtain ⟨k0, k1, k2, kb⟩ := st3 T3.out 1 (w.heap.size + 1) rfl rfl (0) (0) false
        generalize ((w3.setCell ⟨w.heap.size + 1, 0, none⟩ (.int .i64 (0))).setCell ⟨w.heap.size + 1, 1, none⟩ (.int .i64 (0))).setCell ⟨w.heap.size + 1, 2, none⟩ (.bool false) = w9 at k0 k1 k2 kb ⊢
        clear s0 s1 s2 f0 f1 f2
        exact bodyPost_ret (v := .tuple #[.agg #[.int .i64 (0), .int .i64 (0), .bool false], .int .i64 (92)]) (by simp [results, Tryz.results49, go_sem, k0, k1, k2]) rfl ⟨by rw [← HR.out, decide_eq_false HD.out]; rfl, kb⟩
    · obtain ⟨s0, s1, s2, f0, f1, f2⟩ := T2.out.st 1 (w.heap.size + 1) rfl rfl
      go_wp2
      obtain ⟨k0, k1, k2, kb⟩ := st3 T2.out 1 (w.heap.size + 1) rfl rfl (0) (0) false
      generalize ((w2.setCell ⟨w.heap.size + 1, 0, none⟩ (.int .i64 (0))).setCell ⟨w.heap.size + 1, 1, none⟩ (.int .i64 (0))).setCell ⟨w.heap.size + 1, 2, none⟩ (.bool false) = w9 at k0 k1 k2 kb ⊢
      clear s0 s1 s2 f0 f1 f2
      exact bodyPost_ret (v := .tuple #[.agg #[.int .i64 (0), .int .i64 (0), .bool false], .int .i64 (91)]) (by simp [results, Tryz.results49, go_sem, k0, k1, k2]) rfl ⟨by rw [← HR.out]; rfl, kb⟩
end Go.Proofs.YtcagjipdldlehaaGreatDoor
/- Request and Response: the program's, the document's. -/
namespace Go.Proofs.YtcagjipdldlehaaGreatDoor
open Go.ChangeShapes Go.WideShapes Go.ChangeAt Go.RowKit

set_option maxHeartbeats 4000000 in
set_option maxRecDepth 100000 in
theorem req_any (w : World) (r : Bool) (me ta : ByteArray) (mi st : Int) (re : ByteArray) (l : Value) (A : List (ByteArray × ByteArray)) (hA : Flds w l A) (hs : Sm A) :
    Calls Tryz.prog 62 #[.agg (hdC r me ta mi st re l)] w fun e w' => e = .returned (foV (reqO A r mi)) ∧ Below w.heap.size w w' := by
  cases r
  · obtain ⟨a0, c0, rfl, _, _⟩ := hA
    unfold hdC
    go_enter Tryz.func62, Tryz.ntmps62
    go_wp2
    have T0 := hide (Bl.two w #[.bool false, .string me, .string ta, .int .i64 mi, .int .i64 st, .string re, .slice a0 A.length c0] 45 #[.int .i64 0, .int .i64 0, .bool false] 83)
    generalize ((w.alloc (.cells #[.bool false, .string me, .string ta, .int .i64 mi, .int .i64 st, .string re, .slice a0 A.length c0] 45)).alloc (.cells #[.int .i64 0, .int .i64 0, .bool false] 83)) = x at T0 ⊢
    obtain ⟨k0, k1, k2, _, _, _⟩ := T0.out.st 1 (w.heap.size + 1) rfl rfl
    exact bodyPost_ret (v := .tuple #[.agg #[.int .i64 0, .int .i64 0, .bool false], .int .i64 1]) (by simp [results, Tryz.results62, go_sem, k0, k1, k2]) rfl ⟨rfl, T0.out.b⟩
  · have HK := hide (fun W h => keep_any W true me ta mi st re l A h hs)
    have HT := hide (fun W b h => told_anyg W true me ta mi st re l A 1 b h hs)
    have F0 := hide hA
    obtain ⟨a0, c0, rfl, _, _⟩ := hA
    unfold hdC at HK HT ⊢
    obtain ⟨o, ho⟩ : ∃ o, toldO A mi 1 (keepB A mi) = o := ⟨_, rfl⟩
    have HO : Hid (reqO A true mi = o) := hide (by rw [← ho]; rfl)
    have HT2 := hide (fun W h => HT.out W (keepB A mi) h)
    rw [ho] at HT2
    clear ho HT
    generalize keepB A mi = b5 at HK HT2
    unfold frVg at HT2
    have K1 : Hid (∀ W, Bl w W [(#[.bool true, .string me, .string ta, .int .i64 mi, .int .i64 st, .string re, .slice a0 A.length c0], 45), (#[.int .i64 0, .int .i64 0, .bool false], 83)] → Calls Tryz.prog 92 #[.agg #[.bool true, .string me, .string ta, .int .i64 mi, .int .i64 st, .string re, .slice a0 A.length c0]] W fun e w' => ∃ v, e = .returned v ∧ v = .bool b5 ∧ w'.cell? ⟨w.heap.size, 0, none⟩ = some (.bool true) ∧ w'.cell? ⟨w.heap.size, 1, none⟩ = some (.string me) ∧ w'.cell? ⟨w.heap.size, 2, none⟩ = some (.string ta) ∧ w'.cell? ⟨w.heap.size, 3, none⟩ = some (.int .i64 mi) ∧ w'.cell? ⟨w.heap.size, 4, none⟩ = some (.int .i64 st) ∧ w'.cell? ⟨w.heap.size, 5, none⟩ = some (.string re) ∧ w'.cell? ⟨w.heap.size, 6, none⟩ = some (.slice a0 A.length c0) ∧ Hid (Bl w w' [(#[.bool true, .string me, .string ta, .int .i64 mi, .int .i64 st, .string re, .slice a0 A.length c0], 45), (#[.int .i64 0, .int .i64 0, .bool false], 83)])) := hide (fun W hW => (HK.out W (F0.out.below hW.b)).mono (by
      rintro e w' ⟨rfl, bb⟩
      have T := hW.below bb
      obtain ⟨r0, r1, r2, r3, r4, r5, r6⟩ := T.hd 0 w.heap.size rfl rfl
      exact ⟨_, rfl, rfl, r0, r1, r2, r3, r4, r5, r6, hide T⟩))
    have K2 : Hid (∀ W, Bl w W [(#[.bool true, .string me, .string ta, .int .i64 mi, .int .i64 st, .string re, .slice a0 A.length c0], 45), (#[.int .i64 0, .int .i64 0, .bool false], 83)] → Calls Tryz.prog 91 #[.agg #[.bool true, .string me, .string ta, .int .i64 mi, .int .i64 st, .string re, .slice a0 A.length c0], .agg #[.int .i64 1, .int .i64 0, .bool b5]] W fun e w' => ∃ v, e = .returned v ∧ v = foV o ∧ w'.cell? ⟨w.heap.size + 1, 0, none⟩ = some (.int .i64 0) ∧ w'.cell? ⟨w.heap.size + 1, 1, none⟩ = some (.int .i64 0) ∧ w'.cell? ⟨w.heap.size + 1, 2, none⟩ = some (.bool false) ∧ w'.frozen? ⟨w.heap.size + 1, 0, none⟩ = false ∧ w'.frozen? ⟨w.heap.size + 1, 1, none⟩ = false ∧ w'.frozen? ⟨w.heap.size + 1, 2, none⟩ = false ∧ Hid (Bl w w' [(#[.bool true, .string me, .string ta, .int .i64 mi, .int .i64 st, .string re, .slice a0 A.length c0], 45), (#[.int .i64 0, .int .i64 0, .bool false], 83)])) := hide (fun W hW => (HT2.out W (F0.out.below hW.b)).mono (by
      rintro e w' ⟨rfl, bb⟩
      have T := hW.below bb
      obtain ⟨r0, r1, r2, r3, r4, r5⟩ := T.st 1 (w.heap.size + 1) rfl rfl
      exact ⟨_, rfl, rfl, r0, r1, r2, r3, r4, r5, hide T⟩))
    clear HK HT2 hs
    rw [HO.out]
    clear HO
    unfold foV frVg at K2 ⊢
    go_enter Tryz.func62, Tryz.ntmps62
    go_upto_region 3 with fail
    have T0 := hide (Bl.two w #[.bool true, .string me, .string ta, .int .i64 mi, .int .i64 st, .string re, .slice a0 A.length c0] 45 #[.int .i64 0, .int .i64 0, .bool false] 83)
    generalize ((w.alloc (.cells #[.bool true, .string me, .string ta, .int .i64 mi, .int .i64 st, .string re, .slice a0 A.length c0] 45)).alloc (.cells #[.int .i64 0, .int .i64 0, .bool false] 83)) = x at T0 ⊢
    have T1 := hide T0.out.drew
    obtain ⟨r0, r1, r2, r3, r4, r5, r6⟩ := T0.out.hd 0 w.heap.size rfl rfl
    go_region_law (first
      | (refine step_callg rfl 92 _ _ rfl (enters_of Tryz.func92 (by kernel_rfl) rfl) #[.agg #[.bool true, .string me, .string ta, .int .i64 mi, .int .i64 st, .string re, .slice a0 A.length c0]] (by simp [Act.eval]) _ (K1.out _ T1.out) ?_; rintro v y ⟨rfl, q0, q1, q2, q3, q4, q5, q6, TY⟩)
      | (refine step_callg rfl 91 _ _ rfl (enters_of Tryz.func91 (by kernel_rfl) rfl) #[.agg #[.bool true, .string me, .string ta, .int .i64 mi, .int .i64 st, .string re, .slice a0 A.length c0], .agg #[.int .i64 1, .int .i64 0, .bool b5]] (by simp [Act.eval, Act.put]) _ (K2.out _ TY.out) ?_; rintro v z ⟨rfl, s0, s1, s2, f0, f1, f2, TZ⟩))
    all_goals (go_wp2)
    all_goals (obtain ⟨k0, k1, k2, kb⟩ := st3 TZ.out 1 (w.heap.size + 1) rfl rfl o.k o.n o.b)
    all_goals (generalize ((z.setCell ⟨w.heap.size + 1, 0, none⟩ (.int .i64 o.k)).setCell ⟨w.heap.size + 1, 1, none⟩ (.int .i64 o.n)).setCell ⟨w.heap.size + 1, 2, none⟩ (.bool o.b) = w9 at k0 k1 k2 kb ⊢)
    all_goals (clear s0 s1 s2 f0 f1 f2)
    all_goals (exact bodyPost_ret (v := .tuple #[.agg #[.int .i64 o.k, .int .i64 o.n, .bool o.b], .int .i64 o.e]) (by simp [results, Tryz.results62, go_sem, k0, k1, k2]) rfl ⟨rfl, kb⟩)
theorem keep_one (b : Bool) : (b && ((1 : Int) != 4)) = b := by cases b <;> rfl
theorem keep_four (b : Bool) : (b && ((4 : Int) != 4)) = false := by cases b <;> rfl
set_option maxHeartbeats 2000000 in
set_option maxRecDepth 100000 in
theorem rreq_any (w : World) (r : Bool) (me ta : ByteArray) (mi st : Int) (re : ByteArray) (l : Value) (A : List (ByteArray × ByteArray)) (hA : Flds w l A) (hs : Sm A) :
    Calls Tryz.prog 39 #[.agg (hdC r me ta mi st re l)] w fun e w' => e = .returned (foV (reqO A r mi)) ∧ Below w.heap.size w w' := by
  cases r
  · obtain ⟨a0, c0, rfl, _, _⟩ := hA
    unfold hdC
    go_enter Tryz.func39, Tryz.ntmps39
    go_wp2
    have T0 := hide (Bl.two w #[.bool false, .string me, .string ta, .int .i64 mi, .int .i64 st, .string re, .slice a0 A.length c0] 45 #[.int .i64 0, .int .i64 0, .bool false] 83)
    generalize ((w.alloc (.cells #[.bool false, .string me, .string ta, .int .i64 mi, .int .i64 st, .string re, .slice a0 A.length c0] 45)).alloc (.cells #[.int .i64 0, .int .i64 0, .bool false] 83)) = x at T0 ⊢
    obtain ⟨k0, k1, k2, _, _, _⟩ := T0.out.st 1 (w.heap.size + 1) rfl rfl
    exact bodyPost_ret (v := .tuple #[.agg #[.int .i64 0, .int .i64 0, .bool false], .int .i64 1]) (by simp [results, Tryz.results39, go_sem, k0, k1, k2]) rfl ⟨rfl, T0.out.b⟩
  · have HT := hide (fun W h => rtold_any W true me ta mi st re l A 1 h hs)
    rw [keep_one] at HT
    have F0 := hide hA
    obtain ⟨a0, c0, rfl, _, _⟩ := hA
    unfold hdC at HT ⊢
    have HO : Hid (reqO A true mi = toldO A mi 1 (keepB A mi)) := hide rfl
    rw [HO.out]
    generalize toldO A mi 1 (keepB A mi) = o at HT
    clear hs HO
    unfold foV frVg at HT ⊢
    go_enter Tryz.func39, Tryz.ntmps39
    go_wp2_with fail
    have T0 := hide (Bl.two w #[.bool true, .string me, .string ta, .int .i64 mi, .int .i64 st, .string re, .slice a0 A.length c0] 45 #[.int .i64 0, .int .i64 0, .bool false] 83)
    generalize ((w.alloc (.cells #[.bool true, .string me, .string ta, .int .i64 mi, .int .i64 st, .string re, .slice a0 A.length c0] 45)).alloc (.cells #[.int .i64 0, .int .i64 0, .bool false] 83)) = x at T0 ⊢
    refine (HT.out _ (F0.out.below T0.out.b)).mono ?_
    rintro e w1 ⟨rfl, bb⟩
    have T1 := hide (T0.out.below bb)
    clear bb T0
    obtain ⟨s0, s1, s2, f0, f1, f2⟩ := T1.out.st 1 (w.heap.size + 1) rfl rfl
    go_wp2
    obtain ⟨k0, k1, k2, kb⟩ := st3 T1.out 1 (w.heap.size + 1) rfl rfl (o.k) (o.n) o.b
    generalize ((w1.setCell ⟨w.heap.size + 1, 0, none⟩ (.int .i64 (o.k))).setCell ⟨w.heap.size + 1, 1, none⟩ (.int .i64 (o.n))).setCell ⟨w.heap.size + 1, 2, none⟩ (.bool o.b) = w9 at k0 k1 k2 kb ⊢
    clear s0 s1 s2 f0 f1 f2
    exact bodyPost_ret (v := .tuple #[.agg #[.int .i64 (o.k), .int .i64 (o.n), .bool o.b], .int .i64 (o.e)]) (by simp [results, Tryz.results39, go_sem, k0, k1, k2]) rfl ⟨rfl, kb⟩
end Go.Proofs.YtcagjipdldlehaaGreatDoor
/- A body's reader in memory; what it tells. -/
namespace Go.Proofs.YtcagjipdldlehaaGreatDoor
open Go.ChangeShapes Go.WideShapes Go.ChangeAt Go.RowKit

theorem lt_heap' {w : World} {b : Nat} {o : Obj} (h : w.heap[b]? = some o) : b < w.heap.size := blk_lt h
structure Tal where
  got : Nat
  whole : Bool
  wrong : Nat
def talC (t : Tal) : List Value := [.int .i64 (t.got : Int), .bool t.whole, .int .i64 (t.wrong : Int)]
/-- A reader: its own block, and that of its framing. -/
structure Rdr (w : World) (base gr g : Nat) (it ct : TypeId) (t : Tal) (X : List Value) : Prop where
  rd : w.heap[gr]? = some (.cells #[.iface it (.pointer (some ⟨g, 0, none⟩))] 162 (0, 0))
  fr : w.heap[g]? = some (.cells (talC t ++ X).toArray ct (0, 0))
  ne : gr ≠ g
  rb : base ≤ gr
  fb : base ≤ g
theorem Rdr.below {w w' : World} {base gr g : Nat} {it ct : TypeId} {t : Tal} {X : List Value} (h : Rdr w base gr g it ct t X) (b : Below w.heap.size w w') : Rdr w' base gr g it ct t X :=
  ⟨(b.block gr (lt_heap' h.rd)).trans h.rd, (b.block g (lt_heap' h.fr)).trans h.fr, h.ne, h.rb, h.fb⟩
theorem Rdr.c0 {w : World} {base gr g : Nat} {it ct : TypeId} {t : Tal} {X : List Value} (h : Rdr w base gr g it ct t X) : w.cell? ⟨gr, 0, none⟩ = some (.iface it (.pointer (some ⟨g, 0, none⟩))) := cell_at h.rd 0
theorem Rdr.t0 {w : World} {base gr g : Nat} {it ct : TypeId} {t : Tal} {X : List Value} (h : Rdr w base gr g it ct t X) : w.cell? ⟨g, 0, none⟩ = some (.int .i64 (t.got : Int)) := cell_at h.fr 0
theorem Rdr.t1 {w : World} {base gr g : Nat} {it ct : TypeId} {t : Tal} {X : List Value} (h : Rdr w base gr g it ct t X) : w.cell? ⟨g, 1, none⟩ = some (.bool t.whole) := cell_at h.fr 1
theorem Rdr.t2 {w : World} {base gr g : Nat} {it ct : TypeId} {t : Tal} {X : List Value} (h : Rdr w base gr g it ct t X) : w.cell? ⟨g, 2, none⟩ = some (.int .i64 (t.wrong : Int)) := cell_at h.fr 2
theorem isNone_nil (w : World) : Calls Tryz.prog 133 #[.pointer none] w fun e w' => e = .returned (.bool true) ∧ w = w' := by
  go_enter Tryz.func133, Tryz.ntmps133
  go_wp2
  go_ret
  exact ⟨rfl, rfl⟩
theorem isNone_any {w : World} {base gr g : Nat} {it ct : TypeId} {t : Tal} {X : List Value} (h : Rdr w base gr g it ct t X) : Calls Tryz.prog 133 #[.pointer (some ⟨gr, 0, none⟩)] w fun e w' => e = .returned (.bool false) ∧ w = w' := by
  have c := h.c0
  clear h
  go_enter Tryz.func133, Tryz.ntmps133
  go_wp2
  go_ret
  exact ⟨rfl, rfl⟩
theorem told_any (g : Nat) (w : World) : Calls Tryz.prog 229 #[.pointer (some ⟨g, 0, none⟩)] w fun e w' => e = .returned (.pointer (some ⟨g, 0, none⟩)) ∧ w = w' := by
  go_enter Tryz.func229, Tryz.ntmps229
  go_wp2
  go_ret
  exact ⟨rfl, rfl⟩
/-- The kinds of readers. -/
def KT (it : TypeId) : Prop := it = 199 ∨ it = 207 ∨ it = 210 ∨ it = 213
def overT (t : Tal) : Bool := t.whole || decide (t.wrong ≠ 0)
/-- What may have changed: two blocks. -/
structure RK (w w' : World) (gr g : Nat) : Prop where
  os : w'.os = w.os
  tape : w'.tape = w.tape
  output : w'.output = w.output
  size : w.heap.size ≤ w'.heap.size
  block : ∀ k, k < w.heap.size → k ≠ gr → k ≠ g → w'.heap[k]? = w.heap[k]?
theorem RK.refl (w : World) (gr g : Nat) : RK w w gr g := ⟨rfl, rfl, rfl, Nat.le_refl _, fun _ _ _ _ => rfl⟩
theorem RK.trans {a b c : World} {gr g g2 : Nat} (h : RK a b gr g) (k : RK b c gr g2) (hg : g2 = g ∨ a.heap.size ≤ g2) : RK a c gr g :=
  ⟨k.os.trans h.os, k.tape.trans h.tape, k.output.trans h.output, Nat.le_trans h.size k.size, fun i hi h1 h2 => (k.block i (Nat.lt_of_lt_of_le hi h.size) h1 (by rcases hg with rfl | hg; exact h2; omega)).trans (h.block i hi h1 h2)⟩
theorem RK.of_below {w w' : World} (gr g : Nat) (b : Below w.heap.size w w') : RK w w' gr g := ⟨b.os, b.tape, b.output, b.size, fun k hk _ _ => b.block k hk⟩
theorem RK.low {w w' : World} {gr g base : Nat} (h : RK w w' gr g) (h1 : base ≤ gr) (h2 : base ≤ g) (h3 : base ≤ w.heap.size) : Below base w w' :=
  ⟨h.os, h.tape, h.output, h.size, fun k hk => h.block k (by omega) (by omega) (by omega)⟩
theorem RK.set (w : World) (gr g i : Nat) (v : Value) : RK w (w.setCell ⟨g, i, none⟩ v) gr g := ⟨rfl, rfl, rfl, by simp, fun k _ _ h => Below.heap_setCell w ⟨g, i, none⟩ v k h⟩
theorem RK.setR (w : World) (gr g i : Nat) (v : Value) : RK w (w.setCell ⟨gr, i, none⟩ v) gr g := ⟨rfl, rfl, rfl, by simp, fun k _ h _ => Below.heap_setCell w ⟨gr, i, none⟩ v k h⟩
set_option maxRecDepth 100000 in
theorem wholeR_any {w : World} {base gr g : Nat} {it ct : TypeId} {t : Tal} {X : List Value} (h : Rdr w base gr g it ct t X) (hk : KT it) : Calls Tryz.prog 97 #[.pointer (some ⟨gr, 0, none⟩)] w fun e w' => e = .returned (.bool t.whole) ∧ w = w' := by
  have HN := hide (isNone_any h)
  have HT := hide (told_any g w)
  have c := h.c0
  have c0 := h.t1
  clear h
  rcases hk with rfl | rfl | rfl | rfl
  all_goals (
    go_enter Tryz.func97, Tryz.ntmps97
    go_wp2_with fail
    refine HN.out.mono ?_
    rintro e w1 ⟨rfl, rfl⟩
    go_wp2_with fail
    refine HT.out.mono ?_
    rintro e w1 ⟨rfl, rfl⟩
    go_wp2
    go_ret
    exact ⟨rfl, rfl⟩)
/-- settle: a reader that is over lets its framing go. -/
def SetP (w w' : World) (base gr g : Nat) (it ct : TypeId) (t : Tal) (X : List Value) : Prop :=
  (overT t = true → ∃ g', w.heap.size ≤ g' ∧ Rdr w' base gr g' 213 215 t []) ∧ (overT t = false → Rdr w' base gr g it ct t X) ∧ RK w w' gr g ∧ w'.heap[g]? = w.heap[g]?
theorem settle_end {w : World} {base gr g : Nat} {it ct : TypeId} {t : Tal} {X : List Value} (h : Rdr w base gr g it ct t X) (ho : overT t = true) (hb : base ≤ w.heap.size) :
    SetP w ((w.alloc (.cells #[.int .i64 (t.got : Int), .bool t.whole, .int .i64 (t.wrong : Int)] 215)).setCell ⟨gr, 0, none⟩ (.iface 213 (.pointer (some ⟨w.heap.size, 0, none⟩)))) base gr g it ct t X := by
  have bl := (Below.refl w.heap.size w).alloc (Nat.le_refl _) (.cells #[.int .i64 (t.got : Int), .bool t.whole, .int .i64 (t.wrong : Int)] 215)
  have hn := hp_new w (.cells #[.int .i64 (t.got : Int), .bool t.whole, .int .i64 (t.wrong : Int)] 215)
  have hgr := lt_heap' h.rd
  have hr := (bl.block gr hgr).trans h.rd
  refine ⟨fun _ => ⟨w.heap.size, Nat.le_refl _, hp_set hr 0 _, (Below.heap_setCell _ ⟨gr, 0, none⟩ _ w.heap.size (by simp; omega)).trans hn, by omega, h.rb, hb⟩, fun h2 => (by rw [ho] at h2; cases h2), (RK.of_below gr g bl).trans (RK.setR _ gr g 0 _) (.inl rfl), (Below.heap_setCell _ ⟨gr, 0, none⟩ _ g (fun e => h.ne e.symm)).trans (bl.block g (lt_heap' h.fr))⟩
set_option maxHeartbeats 4000000 in
set_option maxRecDepth 100000 in
theorem settle_any {w : World} {base gr g : Nat} {it ct : TypeId} {t : Tal} {X : List Value} (h : Rdr w base gr g it ct t X) (hk : KT it) (hb : base ≤ w.heap.size) :
    Calls Tryz.prog 95 #[.pointer (some ⟨gr, 0, none⟩)] w fun e w' => e = .returned (.tuple #[]) ∧ SetP w w' base gr g it ct t X := by
  have HT := hide (told_any g w)
  have c := h.c0
  have c0 := h.t0
  have c1 := h.t1
  have c2 := h.t2
  have HH := hide h
  have HB := hide hb
  have bl := (Below.refl w.heap.size w).alloc (Nat.le_refl _) (.cells #[.int .i64 (t.got : Int), .bool t.whole, .int .i64 (t.wrong : Int)] 215)
  have cc : (w.alloc (.cells #[.int .i64 (t.got : Int), .bool t.whole, .int .i64 (t.wrong : Int)] 215)).cell? ⟨gr, 0, none⟩ = some (.iface it (.pointer (some ⟨g, 0, none⟩))) := (h.below bl).c0
  have cf : (w.alloc (.cells #[.int .i64 (t.got : Int), .bool t.whole, .int .i64 (t.wrong : Int)] 215)).frozen? ⟨gr, 0, none⟩ = false := by rw [frozen_at (h.below bl).rd]; simp
  clear h bl hb
  obtain ⟨got, wh, wr⟩ := t
  dsimp only at *
  cases wh with
  | true =>
    have HE := hide (settle_end HH.out rfl HB.out)
    rcases hk with rfl | rfl | rfl | rfl
    all_goals (
      go_enter Tryz.func95, Tryz.ntmps95
      go_wp2_with fail
      refine HT.out.mono ?_
      rintro e w1 ⟨rfl, rfl⟩
      go_wp2_with fail
      go_end0
      exact ⟨rfl, HE.out⟩)
  | false =>
    by_cases h0 : wr = 0
    · have t0 : ((wr : Int) != 0) = false := by rw [bne_eq_false_iff_eq]; omega
      have HE : Hid (SetP w w base gr g it ct ⟨got, false, wr⟩ X) := hide ⟨fun h => by simp [overT, h0] at h, fun _ => HH.out, RK.refl _ _ _, rfl⟩
      clear h0
      rcases hk with rfl | rfl | rfl | rfl
      all_goals (
        go_enter Tryz.func95, Tryz.ntmps95
        go_wp2_with fail
        refine HT.out.mono ?_
        rintro e w1 ⟨rfl, rfl⟩
        go_wp2_with fail
        go_end0
        exact ⟨rfl, HE.out⟩)
    · have t0 : ((wr : Int) != 0) = true := bne_iff_ne.2 (by omega)
      have HE := hide (settle_end HH.out (by simp [overT, h0]) HB.out)
      clear h0
      rcases hk with rfl | rfl | rfl | rfl
      all_goals (
        go_enter Tryz.func95, Tryz.ntmps95
        go_wp2_with fail
        refine HT.out.mono ?_
        rintro e w1 ⟨rfl, rfl⟩
        go_wp2_with fail
        go_end0
        exact ⟨rfl, HE.out⟩)
end Go.Proofs.YtcagjipdldlehaaGreatDoor
/- Bytes of the body, taken at once. -/
namespace Go.Proofs.YtcagjipdldlehaaGreatDoor
open Go.ChangeShapes Go.WideShapes Go.ChangeAt Go.RowKit

theorem infoB : ∃ i, Tryz.prog.info? 5 = some i ∧ i.zero = some (.int .u8 0) ∧ i.size = 1 ∧ i.bytes = 1 := elB.i
/-- An append of bytes that came in, beside other rows. -/
theorem append_bs_k (W : World) (base nb : Nat) (ty : TypeId) (v u : Value) (O l : List UInt8) (hown : Row W base 5 v (bc O)) (hB : Bs W nb u l) (hS : Shp u) (hn : O.length + l.length ≤ 140737488355328) (hbase : base ≤ W.heap.size) :
    ∃ v' W', (Builtin.append_ #[31, 31] ty #[v, u]).run Tryz.prog W = .ok v' W' ∧ Row W' base 5 v' (bc (O ++ l)) ∧ Below base W W' ∧ Kept W W' v v' := by
  obtain ⟨i, hi, hz, hs1, hb1⟩ := infoB
  obtain ⟨a, c, rfl, hc, hcell⟩ := hB
  unfold Row at hown
  rw [bc_len] at hown
  rcases hS with he | ⟨ad, m, c', he⟩
  · simp only [Value.slice.injEq] at he
    obtain ⟨rfl, hl0, rfl⟩ := he
    have e : l = [] := List.eq_nil_of_length_eq_zero hl0
    subst e
    refine ⟨v, W, run_append_owned_none W base 31 ty 5 i 1 Tryz.underlying31 hi v _ _ hown, ?_, Below.refl _ _, Kept.refl _ _⟩
    unfold Row
    rw [List.append_nil, bc_len]
    exact hown
  · simp only [Value.slice.injEq] at he
    obtain ⟨rfl, _, _⟩ := he
    obtain ⟨v', W', hr, h1, hg, _, hloc⟩ := run_append_own_at (w := W) base 31 ty 5 i _ 1 1 Tryz.underlying31 hi hz hs1 hb1 rfl (by omega) v O.length (bc O) hown ad l.length c (bc l) (by rw [bc_len]; omega) (by
      intro j u hj
      have hjl : j < l.length := by
        rw [← bc_len]
        exact (List.getElem?_eq_some_iff.1 hj).1
      obtain ⟨b, off, e, _, _, x1⟩ := hcell j hjl
      simp only [Option.some.injEq] at e
      subst e
      have e2 : (⟨b, off, none⟩ : Addr).add j = ⟨b, off + j, none⟩ := by unfold Addr.add; split <;> simp_all
      rw [e2, x1, ← hj]
      simp [bc, hjl]) (by
      intro u hu
      unfold bc at hu
      obtain ⟨x, _, rfl⟩ := List.mem_map.1 hu
      rfl) (by unfold maxLen; omega) (by omega) hbase
    refine ⟨v', W', hr, ?_, (Below.refl base W).grown hg hbase (fun k hk => (World.ownsRow.lt hown k hk).1), ?_⟩
    · unfold Row
      rw [bc_len, List.length_append, show bc (O ++ l) = bc O ++ bc l by simp [bc]]
      exact h1
    · refine ⟨hg.size, fun g h2 h3 => hg.block g h2 (fun h => h3 h.symm), fun g h2 h3 h4 => ?_⟩
      rcases hloc with h5 | h5
      · exact h3 (h5.symm.trans h4)
      · rw [h5] at h4
        simp only [Option.some.injEq] at h4
        omega
theorem Bf.take {w : World} {A : Nat → Prop} {a : Option Addr} {m c : Nat} {l : List UInt8} (h : Bf w A (.slice a m c) l) (k : Nat) (hk : k ≤ l.length) : Bf w A (.slice a k c) (l.take k) := by
  obtain ⟨a', c', he, hc, hx⟩ := h
  simp only [Value.slice.injEq] at he
  obtain ⟨rfl, _, rfl⟩ := he
  have hl : (l.take k).length = k := by simp; omega
  refine ⟨a, c, by rw [hl], by rw [hl]; omega, fun j hj => ?_⟩
  obtain ⟨g, o, h1, h2, h3, h4⟩ := hx j (by omega)
  exact ⟨g, o, h1, h2, h3, by rw [h4]; simp⟩
theorem Bf.drop {w : World} {A : Nat → Prop} {g o : Nat} {m c : Nat} {l : List UInt8} (h : Bf w A (.slice (some ⟨g, o, none⟩) m c) l) (k : Nat) (hk : k ≤ l.length) : Bf w A (.slice (some ⟨g, o + k, none⟩) (l.length - k) (c - k)) (l.drop k) := by
  obtain ⟨a', c', he, hc, hx⟩ := h
  simp only [Value.slice.injEq] at he
  obtain ⟨rfl, _, rfl⟩ := he
  have hl : (l.drop k).length = l.length - k := by simp
  refine ⟨_, c - k, by rw [hl], by rw [hl]; omega, fun j hj => ?_⟩
  obtain ⟨g', o', h1, h2, h3, h4⟩ := hx (k + j) (by omega)
  simp only [Option.some.injEq, Addr.mk.injEq] at h1
  obtain ⟨rfl, rfl, _⟩ := h1
  refine ⟨g, o + k, rfl, h2, h3, ?_⟩
  rw [show o + k + j = o + (k + j) by omega, h4]
  simp
theorem Pce.grow {w W : World} {base h : Nat} {A : Nat → Prop} {rv bv bv' : Value} {rest body body' : List UInt8} (p : Pce w base A h rv bv rest body) (hB : Below base w W) (hk : Kept w W bv bv') (hR : Row W base 5 bv' (bc body')) :
    W.heap[h]? = some (.cells #[rv, bv] 257 (0, 0)) ∧ Pce (W.setCell ⟨h, 1, none⟩ bv') base A h rv bv' rest body' ∧ QK w (W.setCell ⟨h, 1, none⟩ bv') h bv bv' := by
  have hbl : W.heap[h]? = some (.cells #[rv, bv] 257 (0, 0)) := (hk.block h p.lt p.bh).trans p.blk
  have hb' : bv'.ownBlock ≠ some h := hk.apart h p.lt p.bh
  refine ⟨hbl, ⟨hp_set hbl 1 bv', ?_, p.shp, ?_, p.hb, hb', p.hA, fun k e hA => hk.apart k (p.AL k hA) (fun e2 => p.bA k e2 hA) e, fun k hA => Nat.lt_of_lt_of_le (p.AL k hA) (by simpa using hk.size)⟩, ⟨hB.os, hB.tape, hB.output, by simpa using hk.size, fun k hk2 h1 h2 => (Below.heap_setCell W ⟨h, 1, none⟩ bv' k h1).trans (hk.block k hk2 h2), fun k hk2 h2 => hk.apart k hk2 h2⟩⟩
  · refine p.rest.keep (by simpa using hk.size) (fun k h1 h2 => ?_)
    rw [Below.heap_setCell W ⟨h, 1, none⟩ bv' k (fun e => p.hA (by rw [← show k = h from e]; exact h1))]
    exact hk.block k h2 (fun e => p.bA k e h1)
  · exact hR.frame fun k e => Below.heap_setCell W ⟨h, 1, none⟩ bv' k (fun e2 => hb' (by rw [e, e2]))
set_option maxHeartbeats 4000000 in
theorem take_any {w : World} {base h : Nat} {A : Nat → Prop} {rv bv : Value} {rest body : List UInt8} (p : Pce w base A h rv bv rest body) (hb : base ≤ w.heap.size) (n : Nat) (h0 : rest ≠ []) (hl : rest.length + body.length ≤ 140737488355328) (hn : n ≤ 9007199254740992) :
    Calls Tryz.prog 190 #[.pointer (some ⟨h, 0, none⟩), .int .i64 (n : Int)] w fun e w' => e = .returned (.int .i64 ((min n rest.length : Nat) : Int)) ∧ ∃ rv' bv', Pce w' base A h rv' bv' (rest.drop (min n rest.length)) (body ++ rest.take (min n rest.length)) ∧ QK w w' h bv bv' := by
  have HP := hide p
  have HB := hide hb
  obtain ⟨a, c, rfl, hc, hx⟩ := p.rest
  obtain ⟨g, o, rfl, hg1, hg2, hx0⟩ := hx 0 (List.length_pos_iff.2 h0)
  have HRT := hide p.rest
  obtain ⟨ba, bc2, rfl, _, _⟩ := p.body.shape
  rw [bc_len] at HP
  clear p hx hx0 hb
  obtain ⟨k, hkd⟩ : ∃ k, min n rest.length = k := ⟨_, rfl⟩
  have hk1 : k ≤ rest.length := by omega
  have hmin : (min (n : Int) (rest.length : Int)) = (k : Int) := by omega
  have hkn : n < rest.length ∧ k = n ∨ rest.length ≤ n ∧ k = rest.length := by omega
  rw [hkd]
  have c0 : w.cell? ⟨h, 0, none⟩ = some (.slice (some ⟨g, o, none⟩) rest.length c) := HP.out.cell 0
  have hkc : k ≤ c := by omega
  have BD := hide ((Below.refl w.heap.size w).drew)
  have HPD := hide (HP.out.below BD.out)
  obtain ⟨v', W, hrun, hR, hB, hK⟩ := append_bs_k w.drew base w.drew.heap.size 31 (.slice ba body.length bc2) (.slice (some ⟨g, o, none⟩) k c) body (rest.take k) HPD.out.body ((HRT.out.take k hk1).below BD.out).bs (.inr ⟨_, _, _, rfl⟩) (by rw [List.length_take]; omega) HB.out
  obtain ⟨na, nc, rfl, _, _⟩ := hR.shape
  obtain ⟨hbl, hP2, hQ2⟩ := HPD.out.grow hB hK hR
  have HP2 := hide hP2
  have HQ2 := hide ((QK.of_below h (.slice ba body.length bc2) BD.out).trans hQ2)
  have c1 : w.cell? ⟨h, 1, none⟩ = some (.slice ba body.length bc2) := HP.out.cell 1
  have f1 := HP.out.froz 1
  have d1 : W.cell? ⟨h, 1, none⟩ = some (.slice ba body.length bc2) := cell_at hbl 1
  have g1 : W.frozen? ⟨h, 1, none⟩ = false := by rw [frozen_at hbl]; simp
  have HRUN := hide hrun
  clear hP2 hQ2 hB hK hR hkd
  obtain ⟨nl, hnl⟩ : ∃ nl, (bc (body ++ rest.take k)).length = nl := ⟨_, rfl⟩
  rw [hnl] at hrun HP2 HQ2 HRUN
  clear hnl
  rw [bc_len]
  rcases hkn with ⟨hlt, rfl⟩ | ⟨hge, rfl⟩
  · clear hrun
    go_enter Tryz.func190, Tryz.ntmps190
    go_upto_region 2 with fail
    have hrun := HRUN.out
    go_region_law (refine step_append_is rfl (.tmp 16) (.tmp 22) 31 rfl (.slice ba body.length bc2) (.slice (some ⟨g, o, none⟩) k c) (.slice na nl nc) rfl rfl hrun ?_)
    all_goals (clear hrun HRUN c0 c1 f1 d1 g1 hbl)
    all_goals (generalize W.setCell ⟨h, 1, none⟩ (.slice na nl nc) = w2 at HP2 HQ2 ⊢)
    all_goals (have c0 : w2.cell? ⟨h, 0, none⟩ = some (.slice (some ⟨g, o, none⟩) rest.length c) := HP2.out.cell 0)
    all_goals (have f0 := HP2.out.froz 0)
    all_goals (have hcc : ¬ c = k := by omega)
    all_goals (go_wp2_with fail)
    all_goals go_ret
    all_goals exact ⟨rfl, _, _, HP2.out.turn (HP2.out.rest.drop k (by omega)) (.inr ⟨_, _, _, rfl⟩), HQ2.out.trans (QK.set _ _ _ _ _)⟩
  · clear hrun
    go_enter Tryz.func190, Tryz.ntmps190
    go_upto_region 2 with fail
    have hrun := HRUN.out
    go_region_law (refine step_append_is rfl (.tmp 16) (.tmp 22) 31 rfl (.slice ba body.length bc2) (.slice (some ⟨g, o, none⟩) rest.length c) (.slice na nl nc) rfl rfl hrun ?_)
    all_goals (clear hrun HRUN c0 c1 f1 d1 g1 hbl)
    all_goals (generalize W.setCell ⟨h, 1, none⟩ (.slice na nl nc) = w2 at HP2 HQ2 ⊢)
    all_goals (have c0 : w2.cell? ⟨h, 0, none⟩ = some (.slice (some ⟨g, o, none⟩) rest.length c) := HP2.out.cell 0)
    all_goals (have f0 := HP2.out.froz 0)
    all_goals (
      by_cases hcc : c = rest.length
      · subst hcc
        go_wp2_with fail
        go_ret
        exact ⟨rfl, _, _, HP2.out.turn ⟨some ⟨g, o, none⟩, 0, by simp, by simp, fun j hj => by simp at hj⟩ (.inr ⟨_, _, _, rfl⟩), HQ2.out.trans (QK.set _ _ _ _ _)⟩
      · go_wp2_with fail
        go_ret
        exact ⟨rfl, _, _, HP2.out.turn (by have h := HP2.out.rest.drop rest.length (Nat.le_refl _); rw [Nat.sub_self] at h; exact h) (.inr ⟨_, _, _, rfl⟩), HQ2.out.trans (QK.set _ _ _ _ _)⟩)
end Go.Proofs.YtcagjipdldlehaaGreatDoor
/- The library's Grow of nothing, and Concat of three. -/
namespace Go.Proofs.YtcagjipdldlehaaGreatDoor
open Go.ChangeShapes Go.WideShapes Go.ChangeAt Go.RowKit

theorem zeroCells_size (z : Value) (hz : z.cells = #[z]) (n : Nat) : (Builtin.zeroCells z.cells n).size = n := by
  rw [hz]
  simp [Builtin.zeroCells]
theorem row_empty {W : World} {g : Nat} {cur : Array Value} {cap : Nat} (h : W.heap[g]? = some (.cells cur 5 (0, 0))) (hs : cur.size = cap) (hc : cap ≤ maxLen) {base : Nat} (hb : base ≤ g) : Row W base 5 (.slice (some ⟨g, 0, none⟩) 0 cap) [] := by
  refine ⟨rfl, .inr ⟨g, cap, cur, rfl, hb, h, Nat.zero_le _, hc, by simpa using hs, by simp⟩⟩
def Pcs (W : World) (v : Value) (L : List (List UInt8)) : Prop :=
  ∃ (a : Option Addr) (c : Nat), v = .slice a L.length c ∧ L.length ≤ c ∧ ∀ j (h : j < L.length), ∃ g o ba bc, a = some ⟨g, o, none⟩ ∧ g < W.heap.size ∧ W.cell? ⟨g, o + j, none⟩ = some (.slice ba L[j].length bc) ∧ Bs W W.heap.size (.slice ba L[j].length bc) L[j] ∧ Shp (.slice ba L[j].length bc)
theorem flat_take {L : List (List UInt8)} {k : Nat} (h : k < L.length) : (L.take (k + 1)).flatten = (L.take k).flatten ++ L[k] := by
  rw [List.take_succ_eq_append_getElem h, List.flatten_append, List.flatten_cons, List.flatten_nil, List.append_nil]
theorem flat_le (L : List (List UInt8)) (k : Nat) : ((L.take k).flatten).length ≤ L.flatten.length := by
  conv => rhs; rw [← List.take_append_drop k L]
  rw [List.flatten_append, List.length_append]
  omega
theorem wpList_append_bs_k {ops : Array Oper} {rest : List Oper} {o : Oper} {a : Act} {Q : Exit → Act → World → Prop} (hgd : o.guard = none) (s x : Operand)
    (ho : o.op = .call { callee := .builtin .append, args := #[s, x], argTypes := #[31, 31] }) (W : World) (base nb : Nat) (v u : Value) (O l : List UInt8) (hs : a.eval s = v) (hx : a.eval x = u)
    (hown : Row W base 5 v (bc O)) (hB : Bs W nb u l) (hS : Shp u) (hn : O.length + l.length ≤ 140737488355328) (hbase : base ≤ W.heap.size)
    (h : ∀ v' W', Row W' base 5 v' (bc (O ++ l)) → Below base W W' → Kept W W' v v' → wpList Tryz.prog ops Q rest (a.put o.dst v') W') : wpList Tryz.prog ops Q (o :: rest) a W := by
  refine wpList_plain hgd fun K hK => ?_
  obtain ⟨v', W', hr, h2, h3, h4⟩ := append_bs_k W base nb o.type v u O l hown hB hS hn hbase
  unfold Oper.wp execOp
  simp only [ho, resolve, invoke, builtin, Sem.run_bind, Sem.run_pure, Result.andThen_ok, List.map_toArray, List.map_cons, List.map_nil, hs, hx, hr]
  exact hK _ _ (h v' W' h2 h3 h4)
end Go.Proofs.YtcagjipdldlehaaGreatDoor
/- Bytes that a framing takes. -/
namespace Go.Proofs.YtcagjipdldlehaaGreatDoor
open Go.ChangeShapes Go.WideShapes Go.ChangeAt Go.RowKit

def tkN (b : List UInt8) (most got : Nat) : Nat := min b.length (most - got)
/-- A framing's block. -/
structure Fr (w : World) (g : Nat) (ct : TypeId) (t : Tal) (X : List Value) : Prop where
  fr : w.heap[g]? = some (.cells (talC t ++ X).toArray ct (0, 0))
theorem Fr.c {w : World} {g : Nat} {ct : TypeId} {t : Tal} {X : List Value} (h : Fr w g ct t X) (i : Nat) : w.cell? ⟨g, i, none⟩ = (talC t ++ X).toArray[i]? := cell_at h.fr i
theorem Fr.f {w : World} {g : Nat} {ct : TypeId} {t : Tal} {X : List Value} (h : Fr w g ct t X) (i : Nat) : w.frozen? ⟨g, i, none⟩ = false := by rw [frozen_at h.fr]; simp
theorem Fr.below {w w' : World} {g : Nat} {ct : TypeId} {t : Tal} {X : List Value} (h : Fr w g ct t X) (b : Below w.heap.size w w') : Fr w' g ct t X := ⟨(b.block g (lt_heap' h.fr)).trans h.fr⟩
theorem Fr.lt {w : World} {g : Nat} {ct : TypeId} {t : Tal} {X : List Value} (h : Fr w g ct t X) : g < w.heap.size := lt_heap' h.fr
set_option maxHeartbeats 4000000 in
set_option maxRecDepth 100000 in
theorem take_t {w : World} {g : Nat} {ct : TypeId} {t : Tal} {X : List Value} (h : Fr w g ct t X) (gr : Nat) (v : Value) (b : List UInt8) (most : Nat) (hB : Bs w w.heap.size v b) (hS : Shp v) (hm : most ≤ 9007199254740992) (hg : t.got ≤ most) (hl : b.length ≤ 140737488355328) :
    Calls Tryz.prog 230 #[.pointer (some ⟨g, 0, none⟩), v, .int .i64 (most : Int)] w fun e w' => ∃ ua uc, e = .returned (.slice ua (tkN b most t.got) uc) ∧ Row w' w.heap.size 5 (.slice ua (tkN b most t.got) uc) (bc (b.take (tkN b most t.got))) ∧ Fr w' g ct { t with got := t.got + tkN b most t.got } X ∧ RK w w' gr g := by
  have HH := hide h
  have c0 : w.cell? ⟨g, 0, none⟩ = some (.int .i64 (t.got : Int)) := h.c 0
  have hgl := h.lt
  obtain ⟨va, vc, rfl, hvc, hvx⟩ := hB
  have HVX := hide hvx
  clear h hvx
  have hsub : (most : Int) - (t.got : Int) = ((most - t.got : Nat) : Int) := by omega
  rcases hS with h2 | ⟨a, n, c, h2⟩
  · simp only [Value.slice.injEq] at h2
    obtain ⟨rfl, hb0, rfl⟩ := h2
    have hbe : b = [] := List.eq_nil_of_length_eq_zero hb0
    subst hbe
    have hk : tkN [] most t.got = 0 := by unfold tkN; simp
    rw [hk]
    have hmin : min (0 : Int) ((most - t.got : Nat) : Int) = 0 := by omega
    have HF : Hid ({ t with got := t.got + 0 } = t) := hide rfl
    go_enter Tryz.func230, Tryz.ntmps230
    go_wp2_with (at_builtin; apply Hid.out)
    unfold Hid
    refine wpList_append_bs_k rfl _ _ rfl w w.heap.size w.heap.size (.slice none 0 0) (.slice none 0 0) [] [] rfl rfl (Row.nil _ _ _) ⟨none, 0, rfl, Nat.le_refl _, fun j hj => by simp at hj⟩ (.inl rfl) (by simp) (Nat.le_refl _) ?_
    intro u W1 O1 B1 _
    obtain ⟨ua, uc, rfl⟩ : ∃ a c, u = .slice a 0 c := by
      obtain ⟨a, c, h, _⟩ := O1.shape
      exact ⟨a, c, h⟩
    have R1 := hide O1
    have BB := hide B1
    have F1 := hide (HH.out.below B1)
    clear O1 B1 c0
    have c0 : W1.cell? ⟨g, 0, none⟩ = some (.int .i64 (t.got : Int)) := F1.out.c 0
    have f0 := F1.out.f 0
    have FRS : Hid ((W1.setCell ⟨g, 0, none⟩ (.int .i64 (t.got : Int))).heap[g]? = some (.cells (talC t ++ X).toArray ct (0, 0))) := hide (by have h := hp_set F1.out.fr 0 (.int .i64 (t.got : Int)); simpa [talC] using h)
    go_wp2_with fail
    go_ret
    exact ⟨_, _, rfl, R1.out.frame fun j e => Below.heap_setCell W1 ⟨g, 0, none⟩ _ j (fun e2 => by have := (R1.out.lt e).1; have e3 : j = g := e2; omega), ⟨FRS.out⟩, (RK.of_below gr g BB.out).trans (RK.set W1 gr g 0 _) (.inl rfl)⟩
  · simp only [Value.slice.injEq] at h2
    obtain ⟨rfl, h3, h4⟩ := h2
    clear h3 h4
    obtain ⟨k, hk⟩ : ∃ k, tkN b most t.got = k := ⟨_, rfl⟩
    rw [hk]
    have hmin : min (b.length : Int) ((most - t.got : Nat) : Int) = (k : Int) := by unfold tkN at hk; omega
    have hkl : k ≤ b.length := by unfold tkN at hk; omega
    have hkm : t.got + k ≤ most := by unfold tkN at hk; omega
    have hlk : (b.take k).length = k := by rw [List.length_take]; omega
    have HLK := hide hlk
    have HBK : Hid (Bs w w.heap.size (.slice (some a) k vc) (b.take k)) := hide ⟨some a, vc, by rw [hlk], by rw [hlk]; omega, fun j hj => by
      rw [hlk] at hj
      obtain ⟨g', o', q1, q2, q3, q4⟩ := HVX.out j (by omega)
      exact ⟨g', o', q1, q2, q3, by rw [q4]; simp⟩⟩
    have hkv : k ≤ vc := by omega
    obtain ⟨S, hS2⟩ : ∃ S, t.got + k = S := ⟨_, rfl⟩
    have hpl : (t.got : Int) + (k : Int) = (S : Int) := by omega
    have hSb : S ≤ 9007199254740992 := by omega
    have HS2 := hide hS2
    clear hk hlk hS2
    go_enter Tryz.func230, Tryz.ntmps230
    go_wp2_with (at_builtin; apply Hid.out)
    unfold Hid
    refine wpList_append_bs_k rfl _ _ rfl w w.heap.size w.heap.size (.slice none 0 0) (.slice (some a) k vc) [] (b.take k) rfl rfl (Row.nil _ _ _) HBK.out (.inr ⟨_, _, _, rfl⟩) (by rw [HLK.out]; simp; omega) (Nat.le_refl _) ?_
    intro u W1 O1 B1 _
    rw [List.nil_append] at O1
    obtain ⟨ua, uc, rfl⟩ : ∃ a c, u = .slice a k c := by
      obtain ⟨a, c, h, _⟩ := O1.shape
      rw [bc_len, HLK.out] at h
      exact ⟨a, c, h⟩
    have R1 := hide O1
    have BB := hide B1
    have F1 := hide (HH.out.below B1)
    clear O1 B1 c0
    have c0 : W1.cell? ⟨g, 0, none⟩ = some (.int .i64 (t.got : Int)) := F1.out.c 0
    have f0 := F1.out.f 0
    have FRS : Hid ((W1.setCell ⟨g, 0, none⟩ (.int .i64 (S : Int))).heap[g]? = some (.cells (talC { t with got := S } ++ X).toArray ct (0, 0))) := hide (by have h := hp_set F1.out.fr 0 (.int .i64 (S : Int)); simpa [talC] using h)
    go_wp2_with fail
    go_ret
    exact ⟨_, _, rfl, R1.out.frame fun j e => Below.heap_setCell W1 ⟨g, 0, none⟩ _ j (fun e2 => by have := (R1.out.lt e).1; have e3 : j = g := e2; omega), ⟨by rw [HS2.out]; exact FRS.out⟩, (RK.of_below gr g BB.out).trans (RK.set W1 gr g 0 _) (.inl rfl)⟩
end Go.Proofs.YtcagjipdldlehaaGreatDoor
/- What a framing reads, and its end. -/
namespace Go.Proofs.YtcagjipdldlehaaGreatDoor
open Go.ChangeShapes Go.WideShapes Go.ChangeAt Go.RowKit

theorem calls_exR {P : Program} {f : Nat} {args : Array Value} {w : World} {Q : Ending → World → Prop} {R : Value → World → Prop} (c : Calls P f args w Q) (h : ∀ e w', Q e w' → ∃ u, e = .returned u ∧ R u w') : Calls P f args w fun e w' => ∃ u, e = .returned u ∧ R u w' := c.mono h
/-- What a read tells. -/
def RdP (w w' : World) (gr g : Nat) (ct : TypeId) (body : List UInt8) (t' : Tal) (X : List Value) (ua : Option Addr) (k uc : Nat) : Prop :=
  Row w' w.heap.size 5 (.slice ua k uc) (bc body) ∧ Fr w' g ct t' X ∧ RK w w' gr g
theorem Fr.set {w : World} {g : Nat} {ct : TypeId} {t t' : Tal} {X : List Value} (h : Fr w g ct t X) (i : Nat) (v : Value) (hc : (talC t ++ X).toArray.setIfInBounds i v = (talC t' ++ X).toArray) : Fr (w.setCell ⟨g, i, none⟩ v) g ct t' X := ⟨by rw [← hc]; exact hp_set h.fr i v⟩
set_option maxHeartbeats 4000000 in
set_option maxRecDepth 100000 in
theorem read_meas {w : World} {g L : Nat} {t : Tal} (h : Fr w g 203 t [.int .i64 (L : Int)]) (gr : Nat) (v : Value) (b : List UInt8) (hB : Bs w w.heap.size v b) (hS : Shp v) (hL : L ≤ 9007199254740992) (hg : t.got ≤ L) (hl : b.length ≤ 140737488355328) :
    Calls Tryz.prog 228 #[.pointer (some ⟨g, 0, none⟩), v] w fun e w' => ∃ ua uc, e = .returned (.tuple #[.slice ua (tkN b L t.got) uc, .int .i64 ((tkN b L t.got : Nat) : Int)]) ∧ RdP w w' gr g 203 (b.take (tkN b L t.got)) ⟨t.got + tkN b L t.got, decide (t.got + tkN b L t.got = L), t.wrong⟩ [.int .i64 (L : Int)] ua (tkN b L t.got) uc := by
  have hgl := h.lt
  have BD := hide ((Below.refl w.heap.size w).drew)
  have HTK := hide (take_t (h.below BD.out) gr v b L (hB.below (Nat.le_refl _) BD.out) hS hL hg hl)
  have c3 : w.cell? ⟨g, 3, none⟩ = some (.int .i64 (L : Int)) := h.c 3
  have hS' : t.got + tkN b L t.got ≤ L := by unfold tkN; omega
  have hkl : tkN b L t.got ≤ b.length := by unfold tkN; omega
  obtain ⟨va, vc, rfl, _, _⟩ := hB
  clear h hS
  generalize tkN b L t.got = k at HTK hS' hkl ⊢
  obtain ⟨S, hS2⟩ : ∃ S, t.got + k = S := ⟨_, rfl⟩
  rw [hS2] at HTK hS' ⊢
  clear hS2
  go_enter Tryz.func228, Tryz.ntmps228
  go_upto_region 1 with fail
  go_region_law (refine step_call rfl 230 _ _ rfl (enters_of Tryz.func230 (by kernel_rfl) rfl) #[.pointer (some ⟨g, 0, none⟩), .slice va b.length vc, .int .i64 (L : Int)] (by simp [Act.eval]) (fun r w' => ∃ ua uc, r = .slice ua k uc ∧ Row w' w.drew.heap.size 5 (.slice ua k uc) (bc (b.take k)) ∧ Fr w' g 203 { t with got := S } [.int .i64 (L : Int)] ∧ RK w.drew w' gr g) (calls_exR HTK.out (by rintro e w' ⟨ua, uc, rfl, q1, q2, q3⟩; exact ⟨_, rfl, ua, uc, rfl, q1, q2, q3⟩)) ?_; rintro r W1 ⟨ua, uc, rfl, q1, q2, q3⟩)
  all_goals (
    have R1 : Hid (Row W1 w.heap.size 5 (.slice ua k uc) (bc (b.take k))) := hide q1
    have F1 := hide q2
    have K1 := hide ((RK.of_below gr g BD.out).trans q3 (.inl rfl))
    clear q1 q2 q3 c3 HTK
    have d0 : W1.cell? ⟨g, 0, none⟩ = some (.int .i64 (S : Int)) := F1.out.c 0
    have d1 : W1.cell? ⟨g, 1, none⟩ = some (.bool t.whole) := F1.out.c 1
    have d3 : W1.cell? ⟨g, 3, none⟩ = some (.int .i64 (L : Int)) := F1.out.c 3
    have f1 : W1.frozen? ⟨g, 1, none⟩ = false := F1.out.f 1
    have htb : ((S : Int) == (L : Int)) = decide (S = L) := by rw [Bool.eq_iff_iff]; simp only [beq_iff_eq, decide_eq_true_eq, Int.natCast_inj]
    go_upto_region 2 with fail
    go_region_law (fail)
    all_goals (
      have F2 := hide ((F1.out.set (t' := ⟨S, decide (S = L), t.wrong⟩) 1 (.bool (decide (S = L))) rfl).below ((Below.refl _ _).drew))
      have R2 := hide ((R1.out.frame (W' := W1.setCell ⟨g, 1, none⟩ (.bool (decide (S = L)))) fun j e => Below.heap_setCell W1 ⟨g, 1, none⟩ _ j (fun e2 => by have := (R1.out.lt e).1; have e3 : j = g := e2; omega)).below ((Below.refl _ _).drew))
      have K2 := hide ((K1.out.trans (RK.set W1 gr g 1 (.bool (decide (S = L)))) (.inl rfl)).trans (RK.of_below gr g ((Below.refl _ _).drew)) (.inl rfl))
      clear d0 d1 d3 f1
      generalize (W1.setCell ⟨g, 1, none⟩ (.bool (decide (S = L)))).drew = W2 at F2 R2 K2 ⊢
      go_wp2_with fail
      go_ret2
      exact ⟨_, _, rfl, R2.out, F2.out, K2.out⟩))
set_option maxHeartbeats 4000000 in
set_option maxRecDepth 100000 in
theorem read_clos {w : World} {g L : Nat} {t : Tal} (h : Fr w g 212 t [.int .i64 (L : Int)]) (gr : Nat) (v : Value) (b : List UInt8) (hB : Bs w w.heap.size v b) (hS : Shp v) (hL : L ≤ 9007199254740992) (hg : t.got ≤ L) (hl : b.length ≤ 140737488355328) :
    Calls Tryz.prog 236 #[.pointer (some ⟨g, 0, none⟩), v] w fun e w' => ∃ ua uc, e = .returned (.tuple #[.slice ua (tkN b L t.got) uc, .int .i64 (((if tkN b L t.got = b.length then tkN b L t.got else tkN b L t.got + 1) : Nat) : Int)]) ∧ RdP w w' gr g 212 (b.take (tkN b L t.got)) ⟨t.got + tkN b L t.got, t.whole, if tkN b L t.got = b.length then t.wrong else 2⟩ [.int .i64 (L : Int)] ua (tkN b L t.got) uc := by
  have hgl := h.lt
  have BD := hide ((Below.refl w.heap.size w).drew)
  have HTK := hide (take_t (h.below BD.out) gr v b L (hB.below (Nat.le_refl _) BD.out) hS hL hg hl)
  have c3 : w.cell? ⟨g, 3, none⟩ = some (.int .i64 (L : Int)) := h.c 3
  have hS' : t.got + tkN b L t.got ≤ L := by unfold tkN; omega
  have hkl : tkN b L t.got ≤ b.length := by unfold tkN; omega
  obtain ⟨va, vc, rfl, _, _⟩ := hB
  clear h hS
  generalize tkN b L t.got = k at HTK hS' hkl ⊢
  obtain ⟨S, hS2⟩ : ∃ S, t.got + k = S := ⟨_, rfl⟩
  rw [hS2] at HTK hS' ⊢
  clear hS2
  obtain ⟨n, hn⟩ : ∃ n, (if k = b.length then k else k + 1) = n := ⟨_, rfl⟩
  obtain ⟨e2, he2⟩ : ∃ e, (if k = b.length then t.wrong else 2) = e := ⟨_, rfl⟩
  rw [hn, he2]
  have HNE := hide (And.intro hn he2)
  clear hn he2
  go_enter Tryz.func236, Tryz.ntmps236
  go_upto_region 1 with fail
  go_region_law (refine step_call rfl 230 _ _ rfl (enters_of Tryz.func230 (by kernel_rfl) rfl) #[.pointer (some ⟨g, 0, none⟩), .slice va b.length vc, .int .i64 (L : Int)] (by simp [Act.eval]) (fun r w' => ∃ ua uc, r = .slice ua k uc ∧ Row w' w.drew.heap.size 5 (.slice ua k uc) (bc (b.take k)) ∧ Fr w' g 212 { t with got := S } [.int .i64 (L : Int)] ∧ RK w.drew w' gr g) (calls_exR HTK.out (by rintro e w' ⟨ua, uc, rfl, q1, q2, q3⟩; exact ⟨_, rfl, ua, uc, rfl, q1, q2, q3⟩)) ?_; rintro r W1 ⟨ua, uc, rfl, q1, q2, q3⟩)
  all_goals (
    have R1 : Hid (Row W1 w.heap.size 5 (.slice ua k uc) (bc (b.take k))) := hide q1
    have F1 := hide q2
    have K1 := hide ((RK.of_below gr g BD.out).trans q3 (.inl rfl))
    clear q1 q2 q3 c3 HTK
    have d2 : W1.cell? ⟨g, 2, none⟩ = some (.int .i64 (t.wrong : Int)) := F1.out.c 2
    have f2 : W1.frozen? ⟨g, 2, none⟩ = false := F1.out.f 2
    by_cases hkb : k = b.length
    · have tk : ((k : Int) == (b.length : Int)) = true := by rw [beq_iff_eq]; omega
      have hne := HNE.out
      rw [if_pos hkb, if_pos hkb] at hne
      obtain ⟨rfl, rfl⟩ := hne
      clear hkb HNE
      go_wp2_with fail
      go_ret2
      exact ⟨_, _, rfl, R1.out, F1.out, K1.out⟩
    · have tk : ((k : Int) == (b.length : Int)) = false := by rw [beq_eq_false_iff_ne]; omega
      have hne := HNE.out
      rw [if_neg hkb, if_neg hkb] at hne
      obtain ⟨rfl, rfl⟩ := hne
      clear hkb HNE
      have F2 := hide (F1.out.set (t' := ⟨S, t.whole, 2⟩) 2 (.int .i64 2) rfl)
      have R2 := hide (R1.out.frame (W' := W1.setCell ⟨g, 2, none⟩ (.int .i64 2)) fun j e => Below.heap_setCell W1 ⟨g, 2, none⟩ _ j (fun e2 => by have := (R1.out.lt e).1; have e3 : j = g := e2; omega))
      have K2 := hide (K1.out.trans (RK.set W1 gr g 2 (.int .i64 2)) (.inl rfl))
      go_wp2_with fail
      go_ret2
      exact ⟨_, _, rfl, R2.out, F2.out, K2.out⟩)
theorem read_over (g : Nat) (v : Value) (w : World) : Calls Tryz.prog 238 #[.pointer (some ⟨g, 0, none⟩), v] w fun e w' => e = .returned (.tuple #[.slice none 0 0, .int .i64 0]) ∧ w = w' := by
  go_enter Tryz.func238, Tryz.ntmps238
  go_wp2
  go_ret2
  exact ⟨rfl, rfl⟩
end Go.Proofs.YtcagjipdldlehaaGreatDoor
/- Feed and End. -/
namespace Go.Proofs.YtcagjipdldlehaaGreatDoor
open Go.ChangeShapes Go.WideShapes Go.ChangeAt Go.RowKit

/-- How a reader stands behind a call. -/
def FdP (w w' : World) (base gr g : Nat) (it ct : TypeId) (t : Tal) (X : List Value) : Prop :=
  (overT t = true → ∃ g', w.heap.size ≤ g' ∧ Rdr w' base gr g' 213 215 t []) ∧ (overT t = false → Rdr w' base gr g it ct t X) ∧ RK w w' gr g
theorem FdP.of {w W1 W2 : World} {base gr g : Nat} {it ct : TypeId} {t : Tal} {X : List Value} (k : RK w W1 gr g) (s : SetP W1 W2 base gr g it ct t X) : FdP w W2 base gr g it ct t X :=
  ⟨fun h => (by obtain ⟨g', h1, h2⟩ := s.1 h; exact ⟨g', Nat.le_trans k.size h1, h2⟩), s.2.1, k.trans s.2.2.1 (.inl rfl)⟩
theorem FdP.drewN {w w' : World} {base gr g : Nat} {it ct : TypeId} {t : Tal} {X : List Value} (h : FdP w w' base gr g it ct t X) (n : Nat) : FdP w (w'.drewN n) base gr g it ct t X := by
  have b := below_drewN w' n
  exact ⟨fun ho => (by obtain ⟨g', h1, h2⟩ := h.1 ho; exact ⟨g', h1, h2.below b⟩), fun ho => (h.2.1 ho).below b, h.2.2.trans (RK.of_below gr g b) (.inl rfl)⟩
theorem Rdr.fr' {w : World} {base gr g : Nat} {it ct : TypeId} {t : Tal} {X : List Value} (h : Rdr w base gr g it ct t X) : Fr w g ct t X := ⟨h.fr⟩
theorem Rdr.turn {w W : World} {base gr g : Nat} {it ct : TypeId} {t t' : Tal} {X : List Value} (h : Rdr w base gr g it ct t X) (hf : Fr W g ct t' X) (k : RK w W g g) : Rdr W base gr g it ct t' X :=
  ⟨(k.block gr (lt_heap' h.rd) h.ne h.ne).trans h.rd, hf.fr, h.ne, h.rb, h.fb⟩
theorem RK.own {w W : World} {gr g : Nat} (k : RK w W g g) : RK w W gr g := ⟨k.os, k.tape, k.output, k.size, fun i hi _ h => k.block i hi h h⟩
set_option maxHeartbeats 8000000 in
set_option maxRecDepth 100000 in
theorem feed_meas {w : World} {base gr g L : Nat} {t : Tal} (h : Rdr w base gr g 199 203 t [.int .i64 (L : Int)]) (hb : base ≤ w.heap.size) (v : Value) (b : List UInt8) (hB : Bs w w.heap.size v b) (hS : Shp v) (hL : L ≤ 9007199254740992) (hg : t.got ≤ L) (hl : b.length ≤ 140737488355328) :
    Calls Tryz.prog 96 #[.pointer (some ⟨gr, 0, none⟩), v] w fun e w' => ∃ ua uc, e = .returned (.tuple #[.slice ua (tkN b L t.got) uc, .int .i64 ((tkN b L t.got : Nat) : Int), .bool (⟨t.got + tkN b L t.got, decide (t.got + tkN b L t.got = L), t.wrong⟩ : Tal).whole, .int .i64 (((⟨t.got + tkN b L t.got, decide (t.got + tkN b L t.got = L), t.wrong⟩ : Tal).wrong : Nat) : Int)]) ∧ Row w' w.heap.size 5 (.slice ua (tkN b L t.got) uc) (bc (b.take (tkN b L t.got))) ∧ FdP w w' base gr g 199 203 ⟨t.got + tkN b L t.got, decide (t.got + tkN b L t.got = L), t.wrong⟩ [.int .i64 (L : Int)] := by
  have HH := hide h
  have HN := hide (isNone_any h)
  have HRD := hide (read_meas h.fr' g v b hB hS hL hg hl)
  have c0 := h.c0
  have HB := hide hb
  obtain ⟨va, vc, rfl, _, _⟩ := hB
  clear h hS hb
  obtain ⟨k, hk⟩ : ∃ k, tkN b L t.got = k := ⟨_, rfl⟩
  rw [hk] at HRD ⊢
  obtain ⟨tt, htt⟩ : ∃ x : Tal, (⟨t.got + k, decide (t.got + k = L), t.wrong⟩ : Tal) = x := ⟨_, rfl⟩
  rw [htt] at HRD ⊢
  clear hk htt
  go_enter Tryz.func96, Tryz.ntmps96
  go_wp2_with fail
  refine HN.out.mono ?_
  rintro e w1 ⟨rfl, rfl⟩
  clear HN
  go_wp2_with fail
  refine HRD.out.mono ?_
  rintro e W1 ⟨ua, uc, rfl, q1, q2, q3⟩
  have HR1 := hide (HH.out.turn q2 q3)
  have hw1 := q3.size
  have R1 := hide q1
  have K1 := hide (RK.own (gr := gr) q3)
  clear q1 q2 q3 HRD c0
  go_wp2_with fail
  refine (settle_any HR1.out (.inl rfl) (Nat.le_trans HB.out hw1)).mono ?_
  rintro e W2 ⟨rfl, hs⟩
  have HS := hide hs
  have R2 : Hid (Row W2 w.heap.size 5 (.slice ua k uc) (bc (b.take k))) := hide (R1.out.frame fun j e => by
    rcases Nat.lt_or_ge j w.heap.size with h1 | h1
    · have := (R1.out.lt e).1; omega
    · exact hs.2.2.1.block j (R1.out.lt e).2 (by have := lt_heap' HH.out.rd; omega) (by have := lt_heap' HH.out.fr; omega))
  have FP := hide (FdP.of K1.out hs)
  clear hs R1 K1 HR1
  cases ho : overT tt with
  | true =>
    obtain ⟨g2, _, hr2⟩ := HS.out.1 ho
    have HT := hide (told_any g2 W2)
    have c := hr2.c0
    have c1 := hr2.t1
    have c2 := hr2.t2
    clear hr2 ho
    go_wp2_with fail
    refine HT.out.mono ?_
    rintro e w3 ⟨rfl, rfl⟩
    go_wp2_with fail
    go_quiet (fail)
    go_wp2
    exact bodyPost_ret (v := .tuple #[.slice ua k uc, .int .i64 (k : Int), .bool tt.whole, .int .i64 (tt.wrong : Int)]) (by simp [results, Tryz.results96, go_sem]) rfl ⟨_, _, rfl, R2.out.below (below_drewN _ _), FP.out.drewN _⟩
  | false =>
    have hr2 := HS.out.2.1 ho
    obtain ⟨g2, hg2⟩ : ∃ x, g = x := ⟨_, rfl⟩
    rw [hg2] at hr2
    have HT := hide (told_any g2 W2)
    have c := hr2.c0
    have c1 := hr2.t1
    have c2 := hr2.t2
    clear hr2 ho hg2
    go_wp2_with fail
    refine HT.out.mono ?_
    rintro e w3 ⟨rfl, rfl⟩
    go_wp2_with fail
    go_quiet (fail)
    go_wp2
    exact bodyPost_ret (v := .tuple #[.slice ua k uc, .int .i64 (k : Int), .bool tt.whole, .int .i64 (tt.wrong : Int)]) (by simp [results, Tryz.results96, go_sem]) rfl ⟨_, _, rfl, R2.out.below (below_drewN _ _), FP.out.drewN _⟩
set_option maxHeartbeats 8000000 in
set_option maxRecDepth 100000 in
theorem feed_clos {w : World} {base gr g L : Nat} {t : Tal} (h : Rdr w base gr g 210 212 t [.int .i64 (L : Int)]) (hb : base ≤ w.heap.size) (v : Value) (b : List UInt8) (hB : Bs w w.heap.size v b) (hS : Shp v) (hL : L ≤ 9007199254740992) (hg : t.got ≤ L) (hl : b.length ≤ 140737488355328) :
    Calls Tryz.prog 96 #[.pointer (some ⟨gr, 0, none⟩), v] w fun e w' => ∃ ua uc, e = .returned (.tuple #[.slice ua (tkN b L t.got) uc, .int .i64 (((if tkN b L t.got = b.length then tkN b L t.got else tkN b L t.got + 1) : Nat) : Int), .bool (⟨t.got + tkN b L t.got, t.whole, if tkN b L t.got = b.length then t.wrong else 2⟩ : Tal).whole, .int .i64 (((⟨t.got + tkN b L t.got, t.whole, if tkN b L t.got = b.length then t.wrong else 2⟩ : Tal).wrong : Nat) : Int)]) ∧ Row w' w.heap.size 5 (.slice ua (tkN b L t.got) uc) (bc (b.take (tkN b L t.got))) ∧ FdP w w' base gr g 210 212 ⟨t.got + tkN b L t.got, t.whole, if tkN b L t.got = b.length then t.wrong else 2⟩ [.int .i64 (L : Int)] := by
  have HH := hide h
  have HN := hide (isNone_any h)
  have HRD := hide (read_clos h.fr' g v b hB hS hL hg hl)
  have c0 := h.c0
  have HB := hide hb
  obtain ⟨va, vc, rfl, _, _⟩ := hB
  clear h hS hb
  obtain ⟨k, hk⟩ : ∃ k, tkN b L t.got = k := ⟨_, rfl⟩
  rw [hk] at HRD ⊢
  obtain ⟨n, hn⟩ : ∃ n, (if k = b.length then k else k + 1) = n := ⟨_, rfl⟩
  obtain ⟨tt, htt⟩ : ∃ x : Tal, (⟨t.got + k, t.whole, if k = b.length then t.wrong else 2⟩ : Tal) = x := ⟨_, rfl⟩
  rw [htt, hn] at HRD ⊢
  clear hk htt hn
  go_enter Tryz.func96, Tryz.ntmps96
  go_wp2_with fail
  refine HN.out.mono ?_
  rintro e w1 ⟨rfl, rfl⟩
  clear HN
  go_wp2_with fail
  refine HRD.out.mono ?_
  rintro e W1 ⟨ua, uc, rfl, q1, q2, q3⟩
  have HR1 := hide (HH.out.turn q2 q3)
  have hw1 := q3.size
  have R1 := hide q1
  have K1 := hide (RK.own (gr := gr) q3)
  clear q1 q2 q3 HRD c0
  go_wp2_with fail
  refine (settle_any HR1.out (.inr (.inr (.inl rfl))) (Nat.le_trans HB.out hw1)).mono ?_
  rintro e W2 ⟨rfl, hs⟩
  have HS := hide hs
  have R2 : Hid (Row W2 w.heap.size 5 (.slice ua k uc) (bc (b.take k))) := hide (R1.out.frame fun j e => by
    rcases Nat.lt_or_ge j w.heap.size with h1 | h1
    · have := (R1.out.lt e).1; omega
    · exact hs.2.2.1.block j (R1.out.lt e).2 (by have := lt_heap' HH.out.rd; omega) (by have := lt_heap' HH.out.fr; omega))
  have FP := hide (FdP.of K1.out hs)
  clear hs R1 K1 HR1
  cases ho : overT tt with
  | true =>
    obtain ⟨g2, _, hr2⟩ := HS.out.1 ho
    have HT := hide (told_any g2 W2)
    have c := hr2.c0
    have c1 := hr2.t1
    have c2 := hr2.t2
    clear hr2 ho
    go_wp2_with fail
    refine HT.out.mono ?_
    rintro e w3 ⟨rfl, rfl⟩
    go_wp2_with fail
    go_quiet (fail)
    go_wp2
    exact bodyPost_ret (v := .tuple #[.slice ua k uc, .int .i64 (n : Int), .bool tt.whole, .int .i64 (tt.wrong : Int)]) (by simp [results, Tryz.results96, go_sem]) rfl ⟨_, _, rfl, R2.out.below (below_drewN _ _), FP.out.drewN _⟩
  | false =>
    have hr2 := HS.out.2.1 ho
    obtain ⟨g2, hg2⟩ : ∃ x, g = x := ⟨_, rfl⟩
    rw [hg2] at hr2
    have HT := hide (told_any g2 W2)
    have c := hr2.c0
    have c1 := hr2.t1
    have c2 := hr2.t2
    clear hr2 ho hg2
    go_wp2_with fail
    refine HT.out.mono ?_
    rintro e w3 ⟨rfl, rfl⟩
    go_wp2_with fail
    go_quiet (fail)
    go_wp2
    exact bodyPost_ret (v := .tuple #[.slice ua k uc, .int .i64 (n : Int), .bool tt.whole, .int .i64 (tt.wrong : Int)]) (by simp [results, Tryz.results96, go_sem]) rfl ⟨_, _, rfl, R2.out.below (below_drewN _ _), FP.out.drewN _⟩
set_option maxHeartbeats 8000000 in
set_option maxRecDepth 100000 in
theorem feed_over {w : World} {base gr g : Nat} {tt : Tal} (h : Rdr w base gr g 213 215 tt []) (hb : base ≤ w.heap.size) (va : Option Addr) (vn vc : Nat) :
    Calls Tryz.prog 96 #[.pointer (some ⟨gr, 0, none⟩), .slice va vn vc] w fun e w' => e = .returned (.tuple #[.slice none 0 0, .int .i64 0, .bool tt.whole, .int .i64 (tt.wrong : Int)]) ∧ FdP w w' base gr g 213 215 tt [] := by
  have HH := hide h
  have HN := hide (isNone_any h)
  have HRD := hide (read_over g (.slice va vn vc) w)
  have c0 := h.c0
  have HB := hide hb
  clear h hb
  go_enter Tryz.func96, Tryz.ntmps96
  go_wp2_with fail
  refine HN.out.mono ?_
  rintro e w1 ⟨rfl, rfl⟩
  clear HN
  go_wp2_with fail
  refine HRD.out.mono ?_
  rintro e w1 ⟨rfl, rfl⟩
  clear c0 HRD
  go_wp2_with fail
  refine (settle_any HH.out (.inr (.inr (.inr rfl))) HB.out).mono ?_
  rintro e W2 ⟨rfl, hs⟩
  have HS := hide hs
  have FP := hide (FdP.of (RK.refl w gr g) hs)
  clear hs
  cases ho : overT tt with
  | true =>
    obtain ⟨g2, _, hr2⟩ := HS.out.1 ho
    have HT := hide (told_any g2 W2)
    have c := hr2.c0
    have c1 := hr2.t1
    have c2 := hr2.t2
    clear hr2 ho
    go_wp2_with fail
    refine HT.out.mono ?_
    rintro e w3 ⟨rfl, rfl⟩
    go_wp2_with fail
    go_quiet (fail)
    go_wp2
    exact bodyPost_ret (v := .tuple #[.slice none 0 0, .int .i64 0, .bool tt.whole, .int .i64 (tt.wrong : Int)]) (by simp [results, Tryz.results96, go_sem]) rfl ⟨rfl, FP.out.drewN _⟩
  | false =>
    have hr2 := HS.out.2.1 ho
    obtain ⟨g2, hg2⟩ : ∃ x, g = x := ⟨_, rfl⟩
    rw [hg2] at hr2
    have HT := hide (told_any g2 W2)
    have c := hr2.c0
    have c1 := hr2.t1
    have c2 := hr2.t2
    clear hr2 ho hg2
    go_wp2_with fail
    refine HT.out.mono ?_
    rintro e w3 ⟨rfl, rfl⟩
    go_wp2_with fail
    go_quiet (fail)
    go_wp2
    exact bodyPost_ret (v := .tuple #[.slice none 0 0, .int .i64 0, .bool tt.whole, .int .i64 (tt.wrong : Int)]) (by simp [results, Tryz.results96, go_sem]) rfl ⟨rfl, FP.out.drewN _⟩
end Go.Proofs.YtcagjipdldlehaaGreatDoor
/- New. -/
namespace Go.Proofs.YtcagjipdldlehaaGreatDoor
open Go.ChangeShapes Go.WideShapes Go.ChangeAt Go.RowKit

def frV (k len : Int) (x : Bool) : Value := .agg #[.int .i64 k, .int .i64 len, .bool x]
def isR (k len : Int) : Bool := if k = 2 then decide (0 ≤ len ∧ len ≤ 9007199254740992) else if k = 1 ∨ k = 3 ∨ k = 4 then decide (len = 0) else false
set_option maxHeartbeats 4000000 in
set_option maxRecDepth 100000 in
theorem isRight_any (k len : Int) (x : Bool) (w : World) : Calls Tryz.prog 93 #[frV k len x] w fun e w' => e = .returned (.bool (isR k len)) ∧ Below w.heap.size w w' := by
  have fin : ∀ W, W = w.alloc (.cells #[.int .i64 k, .int .i64 len, .bool x] 83) → Below w.heap.size w W := by rintro W rfl; exact (Below.refl w.heap.size w).alloc (Nat.le_refl _) _
  have FIN := hide fin
  clear fin
  unfold frV
  obtain ⟨R, hR⟩ : ∃ R, isR k len = R := ⟨_, rfl⟩
  rw [hR]
  unfold isR at hR
  by_cases h2 : k = 2
  · subst h2
    rw [if_pos rfl] at hR
    by_cases h3 : 0 ≤ len
    · by_cases h4 : len ≤ 9007199254740992
      · have HR := hide (hR.symm.trans (decide_eq_true (And.intro h3 h4)))
        clear hR
        go_enter Tryz.func93, Tryz.ntmps93
        go_wp2
        go_ret
        exact ⟨ret_bool (by first | (rw [HR.out]) | (rw [HR.out]; simp; omega)), FIN.out _ rfl⟩
      · have HR := hide (hR.symm.trans (decide_eq_false (fun h => h4 h.2)))
        clear hR
        go_enter Tryz.func93, Tryz.ntmps93
        go_wp2
        go_ret
        exact ⟨ret_bool (by first | (rw [HR.out]) | (rw [HR.out]; simp; omega)), FIN.out _ rfl⟩
    · have HR := hide (hR.symm.trans (decide_eq_false (fun h => h3 h.1)))
      clear hR
      go_enter Tryz.func93, Tryz.ntmps93
      go_wp2
      go_ret
      exact ⟨ret_bool (by first | (rw [HR.out]) | (rw [HR.out]; simp; omega)), FIN.out _ rfl⟩
  · have t2 : (k == 2) = false := by rw [beq_eq_false_iff_ne]; exact h2
    rw [if_neg h2] at hR
    by_cases h134 : k = 1 ∨ k = 3 ∨ k = 4
    · rw [if_pos h134] at hR
      have HR := hide hR
      have HL : Hid ((len == 0) = decide (len = 0)) := hide (by rw [Bool.eq_iff_iff]; simp)
      clear hR h2 t2
      rcases h134 with rfl | rfl | rfl
      all_goals (
        go_enter Tryz.func93, Tryz.ntmps93
        go_wp2
        go_ret
        exact ⟨ret_bool (by rw [← HR.out]; exact HL.out), FIN.out _ rfl⟩)
    · rw [if_neg h134] at hR
      rw [not_or, not_or] at h134
      have t1 : (k == 1) = false := by rw [beq_eq_false_iff_ne]; exact h134.1
      have t3 : (k == 3) = false := by rw [beq_eq_false_iff_ne]; exact h134.2.1
      have t4 : (k == 4) = false := by rw [beq_eq_false_iff_ne]; exact h134.2.2
      have HR := hide hR
      clear hR h2 h134
      go_enter Tryz.func93, Tryz.ntmps93
      go_wp2
      go_ret
      exact ⟨ret_bool HR.out, FIN.out _ rfl⟩
/-- What framedBy makes. -/
def FbP (w w' : World) (r : Value) (it ct : TypeId) (t : Tal) (X : List Value) : Prop := ∃ g, r = .iface it (.pointer (some ⟨g, 0, none⟩)) ∧ w.heap.size ≤ g ∧ w'.heap[g]? = some (.cells (talC t ++ X).toArray ct (0, 0)) ∧ Below w.heap.size w w'
theorem fb_mk {w : World} (a : Array Value) (ta : TypeId) (it ct : TypeId) (t : Tal) (X : List Value) : FbP w ((w.alloc (.cells a ta)).alloc (.cells (talC t ++ X).toArray ct)) (.iface it (.pointer (some ⟨w.heap.size + 1, 0, none⟩))) it ct t X := by
  have h := hp_new (w.alloc (.cells a ta)) (.cells (talC t ++ X).toArray ct)
  have hs : (w.alloc (.cells a ta)).heap.size = w.heap.size + 1 := by simp
  rw [hs] at h
  exact ⟨w.heap.size + 1, rfl, by omega, h, ((Below.refl w.heap.size w).alloc (Nat.le_refl _) _).alloc (by omega) _⟩
set_option maxHeartbeats 4000000 in
set_option maxRecDepth 100000 in
theorem framed_len (len : Nat) (x : Bool) (most : Int) (w : World) : Calls Tryz.prog 94 #[frV 2 (len : Int) x, .int .i64 most] w fun e w' => ∃ r, e = .returned r ∧ FbP w w' r 199 203 ⟨0, decide (len = 0), 0⟩ [.int .i64 (len : Int)] := by
  have HF := hide (fb_mk (w := w) #[.int .i64 2, .int .i64 (len : Int), .bool x] 83 199 203 ⟨0, decide (len = 0), 0⟩ [.int .i64 (len : Int)])
  have HL : ((len : Int) == 0) = decide (len = 0) := by rw [Bool.eq_iff_iff]; simp
  unfold frV
  go_enter Tryz.func94, Tryz.ntmps94
  go_wp2
  go_ret
  exact ⟨_, rfl, HF.out⟩
set_option maxHeartbeats 4000000 in
set_option maxRecDepth 100000 in
theorem framed_clos (len : Int) (x : Bool) (most : Nat) (w : World) : Calls Tryz.prog 94 #[frV 4 len x, .int .i64 (most : Int)] w fun e w' => ∃ r, e = .returned r ∧ FbP w w' r 210 212 ⟨0, false, 0⟩ [.int .i64 (most : Int)] := by
  have HF := hide (fb_mk (w := w) #[.int .i64 4, .int .i64 len, .bool x] 83 210 212 ⟨0, false, 0⟩ [.int .i64 (most : Int)])
  unfold frV
  go_enter Tryz.func94, Tryz.ntmps94
  go_wp2
  go_ret
  exact ⟨_, rfl, HF.out⟩
set_option maxHeartbeats 4000000 in
set_option maxRecDepth 100000 in
theorem framed_none (len : Int) (x : Bool) (most : Int) (w : World) : Calls Tryz.prog 94 #[frV 1 len x, .int .i64 most] w fun e w' => ∃ r, e = .returned r ∧ FbP w w' r 213 215 ⟨0, true, 0⟩ [] := by
  have HF := hide (fb_mk (w := w) #[.int .i64 1, .int .i64 len, .bool x] 83 213 215 ⟨0, true, 0⟩ [])
  unfold frV
  go_enter Tryz.func94, Tryz.ntmps94
  go_wp2
  go_ret
  exact ⟨_, rfl, HF.out⟩
/-- A reader that is new. -/
def NwP (w w' : World) (e : Ending) (it ct : TypeId) (t : Tal) (X : List Value) : Prop := ∃ gr g, e = .returned (.tuple #[.pointer (some ⟨gr, 0, none⟩), .int .i64 0]) ∧ w.heap.size ≤ gr ∧ w.heap.size ≤ g ∧ Below w.heap.size w w' ∧ (overT t = true → ∃ g', w.heap.size ≤ g' ∧ Rdr w' w.heap.size gr g' 213 215 t []) ∧ (overT t = false → Rdr w' w.heap.size gr g it ct t X)
set_option maxHeartbeats 4000000 in
set_option maxRecDepth 100000 in
theorem new_of {k len : Int} {x : Bool} {most : Int} {w : World} {it ct : TypeId} {t : Tal} {X : List Value} (hk : KT it) (h0 : 0 ≤ most) (hm : most ≤ 9007199254740992) (hr : isR k len = true) (hl : len ≤ most)
    (hf : ∀ W, Calls Tryz.prog 94 #[frV k len x, .int .i64 most] W fun e w' => ∃ r, e = .returned r ∧ FbP W w' r it ct t X) :
    Calls Tryz.prog 63 #[frV k len x, .int .i64 most] w fun e w' => NwP w w' e it ct t X := by
  have HF := hide hf
  have HI := hide (fun W => isRight_any k len x W)
  rw [hr] at HI
  have HK := hide hk
  have t1 : ¬ most < 0 := by omega
  have t2 : ¬ 9007199254740992 < most := by omega
  have t3 : ¬ most < len := by omega
  clear hf hk hr
  unfold frV at HF HI ⊢
  go_enter Tryz.func63, Tryz.ntmps63
  have BA := hide ((Below.refl w.heap.size w).alloc (Nat.le_refl _) (.cells #[.int .i64 k, .int .i64 len, .bool x] 83))
  have HB := hide (hp_new w (.cells #[.int .i64 k, .int .i64 len, .bool x] 83))
  have HLT := lt_heap' HB.out
  go_upto_region 1 with fail
  generalize w.alloc (.cells #[.int .i64 k, .int .i64 len, .bool x] 83) = W0 at BA HB HLT ⊢
  have c0 : W0.cell? ⟨w.heap.size, 0, none⟩ = some (.int .i64 k) := cell_at HB.out 0
  have c1 : W0.cell? ⟨w.heap.size, 1, none⟩ = some (.int .i64 len) := cell_at HB.out 1
  have c2 : W0.cell? ⟨w.heap.size, 2, none⟩ = some (.bool x) := cell_at HB.out 2
  go_wp2_with fail
  refine (HI.out W0).mono ?_
  rintro e W1 ⟨rfl, b1⟩
  have B1 := hide (BA.out.trans (b1.mono BA.out.size))
  have HB1 := hide ((b1.block w.heap.size HLT).trans HB.out)
  clear c0 c1 c2 b1 HI
  have c0 : W1.cell? ⟨w.heap.size, 0, none⟩ = some (.int .i64 k) := cell_at HB1.out 0
  have c1 : W1.cell? ⟨w.heap.size, 1, none⟩ = some (.int .i64 len) := cell_at HB1.out 1
  have c2 : W1.cell? ⟨w.heap.size, 2, none⟩ = some (.bool x) := cell_at HB1.out 2
  go_wp2_with fail
  refine (HF.out W1).mono ?_
  rintro e W2 ⟨r, rfl, g, rfl, hg, hfr, b2⟩
  have B2 := hide (B1.out.trans (b2.mono B1.out.size))
  have HG := hide hg
  have HFR := hide hfr
  have hgl := lt_heap' hfr
  clear c0 c1 c2 b2 hg hfr HF
  go_upto_region 6 with fail
  have BN := hide ((Below.refl W2.heap.size W2).alloc (Nat.le_refl _) (.cells #[.iface it (.pointer (some ⟨g, 0, none⟩))] 162))
  have HN := hide (hp_new W2 (.cells #[.iface it (.pointer (some ⟨g, 0, none⟩))] 162))
  have hww : w.heap.size ≤ W1.heap.size := B1.out.size
  have hw2 : w.heap.size ≤ W2.heap.size := B2.out.size
  have HRD : Hid (Rdr (W2.alloc (.cells #[.iface it (.pointer (some ⟨g, 0, none⟩))] 162)) w.heap.size W2.heap.size g it ct t X) := hide ⟨HN.out, (BN.out.block g hgl).trans HFR.out, by omega, hw2, by have := HG.out; omega⟩
  have B3 := hide (B2.out.trans (BN.out.mono B2.out.size))
  generalize W2.alloc (.cells #[.iface it (.pointer (some ⟨g, 0, none⟩))] 162) = W3 at BN HN HRD B3 ⊢
  go_wp2_with fail
  refine (settle_any HRD.out HK.out B3.out.size).mono ?_
  rintro e W4 ⟨rfl, hs⟩
  have HS := hide hs
  have B4 := hide (B3.out.trans (hs.2.2.1.low hw2 (by have := HG.out; omega) B3.out.size))
  clear hs
  go_wp2
  go_ret2
  exact ⟨W2.heap.size, g, rfl, hw2, by have := HG.out; omega, B4.out, fun h => (by obtain ⟨g', q1, q2⟩ := HS.out.1 h; exact ⟨g', Nat.le_trans B3.out.size q1, q2⟩), HS.out.2.1⟩
end Go.Proofs.YtcagjipdldlehaaGreatDoor
