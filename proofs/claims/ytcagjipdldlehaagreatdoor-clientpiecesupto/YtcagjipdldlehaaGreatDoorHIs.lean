/- The program's texts of a first line: the library's Cut, a target, a status, a reason. -/
import Derived.Test.YtcagjipdldlehaaGreatDoorHCut
import Derived.Deep.Cut
namespace Go.Proofs.YtcagjipdldlehaaGreatDoor
open Go.ChangeShapes Go.WideShapes Go.ChangeAt Go.RowKit

theorem idx_no {c : UInt8} : ∀ {l : List UInt8}, (∀ x ∈ l, x ≠ c) → Lib.index l [c] = -1
  | [], _ => rfl
  | y :: r, h => by
    have hy : y ≠ c := h y List.mem_cons_self
    have ih := idx_no (c := c) (l := r) fun x hx => h x (List.mem_cons_of_mem _ hx)
    unfold Lib.index
    rw [ih]
    simp [List.isPrefixOf, Ne.symm hy]
theorem idx_yes {c : UInt8} {b : List UInt8} : ∀ {a : List UInt8}, (∀ x ∈ a, x ≠ c) → Lib.index (a ++ c :: b) [c] = a.length
  | [], _ => by simp [Lib.index, List.isPrefixOf]
  | y :: r, h => by
    have hy : y ≠ c := h y List.mem_cons_self
    have ih := idx_yes (c := c) (b := b) (a := r) fun x hx => h x (List.mem_cons_of_mem _ hx)
    rw [List.cons_append]
    unfold Lib.index
    rw [ih, if_neg (by simp [List.isPrefixOf, Ne.symm hy]), if_neg (by simp only [beq_iff_eq]; omega), List.length_cons]
    omega
theorem cut_eq (c : UInt8) (l : List UInt8) : Lib.cut l [c] = (cu1 c l, cu2 c l, cu3 c l) := by
  unfold Lib.cut
  rcases cu_form c l with h | ⟨a, b, rfl, h⟩
  · rw [idx_no h, (cu_no h).1, (cu_no h).2.1, (cu_no h).2.2]
    rfl
  · rw [idx_yes h, (cu_yes h).1, (cu_yes h).2.1, (cu_yes h).2.2, if_pos (by omega)]
    simp
/-- The cell of bytealg.MaxLen holds a number. -/
def MX (w : World) : Prop := 2 < w.heap.size ∧ ∃ m : Int, w.cell? ⟨2, 0, none⟩ = some (.int .i64 m)
theorem MX.below {w w' : World} (h : MX w) (b : Below w.heap.size w w') : MX w' := by
  obtain ⟨h0, m, hm⟩ := h
  exact ⟨Nat.lt_of_lt_of_le h0 b.size, m, (b.cell (p := ⟨2, 0, none⟩) (show 2 < _ by omega)).trans hm⟩
theorem pcut_any (s : ByteArray) (c : UInt8) (w : World) (hs : s.size ≤ 65536) (hm : MX w) :
    Calls Tryz.prog 53 #[.string s, .string ⟨#[c]⟩] w fun e w' => e = .returned (.tuple #[.string (k1 c s), .string (k2 c s), .bool (k3 c s)]) ∧ Below w.heap.size w w' := by
  obtain ⟨_, m, hm⟩ := hm
  refine (Tryz.strings_Cut s ⟨#[c]⟩ m w (by omega) hm).mono ?_
  rintro e w' ⟨rfl, n, rfl⟩
  refine ⟨?_, below_drewN w n⟩
  rw [show (ByteArray.mk #[c]).data.toList = [c] from rfl, cut_eq]
  rfl

def tgc (c : UInt8) : Bool := decide (33 ≤ c.toNat) && decide (c.toNat ≤ 126)
def tgtB (l : List UInt8) : Bool := l.all tgc && !l.isEmpty
set_option maxHeartbeats 1000000 in
theorem isTarget_any (s : ByteArray) (w : World) (hs : s.size ≤ maxLen) :
    Calls Tryz.prog 59 #[.string s] w fun e w' => e = .returned (.bool (tgtB s.data.toList)) ∧ w = w' := by
  unfold maxLen at hs
  go_enter Tryz.func59, Tryz.ntmps59
  go_wp2
  go_loop [6] (fun i => ∃ k : Nat, k ≤ s.size ∧ i = .int .i64 k ∧ Hid ((s.data.toList.take k).all tgc = true)) (fun i => s.size - (intOf i).toNat)
  case atStart => exact ⟨0, Nat.zero_le _, rfl, by simp [Hid]⟩
  case round =>
    obtain ⟨k, hk, rfl, H⟩ := hrel
    by_cases hlt : k < s.size
    · have HA := hide (all_snoc tgc s k hlt)
      have HB := hide (all_no tgc s k hlt)
      by_cases h1 : s[k].toNat ≤ 32
      · have t1 : (s[k].toNat : Int) ≤ 32 := by omega
        have HE : Hid (tgtB s.data.toList = false) := by unfold tgtB; rw [HB.out (by unfold tgc; simp; omega)]; simp [Hid]
        go_wp2
        go_ret
        exact ⟨ret_bool HE.out.symm, rfl⟩
      · have t1 : ¬ (s[k].toNat : Int) ≤ 32 := by omega
        by_cases h2 : 126 < s[k].toNat
        · have t2 : (126 : Int) < (s[k].toNat : Int) := by omega
          have HE : Hid (tgtB s.data.toList = false) := by unfold tgtB; rw [HB.out (by unfold tgc; simp; omega)]; simp [Hid]
          go_wp2
          go_ret
          exact ⟨ret_bool HE.out.symm, rfl⟩
        · have t2 : ¬ (126 : Int) < (s[k].toNat : Int) := by omega
          have HC : Hid ((s.data.toList.take (k + 1)).all tgc = true) := by
            rw [HA.out, H.out]
            unfold tgc
            simp [Hid]
            omega
          go_wp2
          exact ⟨⟨k + 1, by omega, by go_num, HC⟩, by simp [intOf]; omega⟩
    · have e1 : tgtB s.data.toList = decide (s.size ≠ 0) := by
        have h := H.out
        rw [take_all s k (by omega)] at h
        unfold tgtB
        rw [h, isEmpty_size]
        by_cases h0 : s.size = 0 <;> simp [h0]
      have HE := hide e1
      clear e1
      go_wp2
      go_ret
      refine ⟨ret_bool ?_, rfl⟩
      rw [HE.out, Lib.toList_data, isEmpty_size]
      by_cases h0 : s.size = 0 <;> simp [h0]
def statB (l : List UInt8) : Bool := decide (numE 10 l = 0) && (decide (l.length = 3) && (decide (100 ≤ numV 10 l) && decide (numV 10 l ≤ 599)))
set_option maxHeartbeats 1000000 in
theorem isStatus_any (s : ByteArray) (w : World) (hs : s.size ≤ maxLen) :
    Calls Tryz.prog 54 #[.string s] w fun e w' => e = .returned (.bool (statB s.data.toList)) ∧ w = w' := by
  have HN := hide (Number_any s w hs)
  have HL := hide (size_len s)
  unfold statB
  generalize hv : numV 10 s.data.toList = v at HN ⊢
  generalize he : numE 10 s.data.toList = f at HN ⊢
  clear hv he
  go_enter Tryz.func54, Tryz.ntmps54
  by_cases h0 : f = 0
  · have t0 : ((f : Int) == 0) = true := by simp [h0]
    by_cases h1 : s.size = 3
    · have t1 : ((s.size : Int) == 3) = true := by simp [h1]; 
      by_cases h2 : 100 ≤ v
      · have t2 : decide ((v : Int) ≥ 100) = true := by simp; omega
        by_cases h3 : v ≤ 599
        · have t3 : decide ((v : Int) ≤ 599) = true := by simp; omega
          have HE : Hid ((decide (f = 0) && (decide (s.data.toList.length = 3) && (decide (100 ≤ v) && decide (v ≤ 599)))) = true) := by rw [HL.out]; simp [Hid, h0, h1, h2, h3]
          clear h0 h1 h2 h3
          go_wp2_with (refine HN.out.mono ?_; rintro e w' ⟨rfl, rfl⟩)
          go_ret
          exact ⟨ret_bool HE.out.symm, rfl⟩
        · have t3 : decide ((v : Int) ≤ 599) = false := by simp; omega
          have HE : Hid ((decide (f = 0) && (decide (s.data.toList.length = 3) && (decide (100 ≤ v) && decide (v ≤ 599)))) = false) := by rw [HL.out]; simp [Hid, h3]
          clear h0 h1 h2 h3
          go_wp2_with (refine HN.out.mono ?_; rintro e w' ⟨rfl, rfl⟩)
          go_ret
          exact ⟨ret_bool HE.out.symm, rfl⟩
      · have t2 : decide ((v : Int) ≥ 100) = false := by simp; omega
        have HE : Hid ((decide (f = 0) && (decide (s.data.toList.length = 3) && (decide (100 ≤ v) && decide (v ≤ 599)))) = false) := by rw [HL.out]; simp [Hid, h2]
        clear h0 h1 h2
        go_wp2_with (refine HN.out.mono ?_; rintro e w' ⟨rfl, rfl⟩)
        go_ret
        exact ⟨ret_bool HE.out.symm, rfl⟩
    · have t1 : ((s.size : Int) == 3) = false := by simp; omega
      have HE : Hid ((decide (f = 0) && (decide (s.data.toList.length = 3) && (decide (100 ≤ v) && decide (v ≤ 599)))) = false) := by rw [HL.out]; simp [Hid, h1]
      clear h0 h1
      go_wp2_with (refine HN.out.mono ?_; rintro e w' ⟨rfl, rfl⟩)
      go_ret
      exact ⟨ret_bool HE.out.symm, rfl⟩
  · have t0 : ((f : Int) == 0) = false := by simp; omega
    have HE : Hid ((decide (f = 0) && (decide (s.data.toList.length = 3) && (decide (100 ≤ v) && decide (v ≤ 599)))) = false) := by rw [HL.out]; simp [Hid, h0]
    clear h0
    go_wp2_with (refine HN.out.mono ?_; rintro e w' ⟨rfl, rfl⟩)
    go_ret
    exact ⟨ret_bool HE.out.symm, rfl⟩
theorem rsn_eq (l : List UInt8) : valueB (trimB l) = l.all valc := by
  unfold valueB
  rw [trimB_idem, decide_eq_true rfl, Bool.and_true, trimB_eq]
  have hb : ∀ c, blankc c = true → valc c = true := by
    intro c h
    unfold blankc at h
    unfold valc
    simp only [Bool.or_eq_true, decide_eq_true_eq] at h
    rcases h with h | h <;> simp [h]
  have hd : ∀ l : List UInt8, (l.dropWhile blankc).all valc = l.all valc := by
    intro l
    induction l with
    | nil => rfl
    | cons y r ih =>
      rw [List.dropWhile_cons]
      cases hy : blankc y with
      | true => rw [if_pos rfl, ih, List.all_cons, hb y hy, Bool.true_and]
      | false => rw [if_neg (by simp)]
  unfold ltrim rtrim
  rw [hd, List.all_reverse, hd, List.all_reverse]
theorem isReason_any (s : ByteArray) (w : World) (hs : s.size ≤ 281474976710656) :
    Calls Tryz.prog 55 #[.string s] w fun e w' => e = .returned (.bool (s.data.toList.all valc)) ∧ Below w.heap.size w w' := by
  have HT := hide (trim_any s w hs)
  have HV := hide (fun W => value_any (trimS s) W (by have := trim_size s; unfold maxLen; omega))
  have e1 : valueB (trimS s).data.toList = s.data.toList.all valc := by
    rw [← rsn_eq, show (trimS s).data.toList = trimB s.data.toList by simp [trimS]]
  rw [e1] at HV
  clear e1
  generalize s.data.toList.all valc = r at HV ⊢
  generalize trimS s = t at HT HV
  go_enter Tryz.func55, Tryz.ntmps55
  go_wp2_with fail
  refine HT.out.mono ?_
  rintro e w1 ⟨rfl, b1⟩
  go_wp2_with fail
  refine (HV.out _).mono ?_
  rintro e w2 ⟨rfl, b2⟩
  go_wp2
  go_ret
  exact ⟨rfl, b1.trans (b2.mono b1.size)⟩
end Go.Proofs.YtcagjipdldlehaaGreatDoor
