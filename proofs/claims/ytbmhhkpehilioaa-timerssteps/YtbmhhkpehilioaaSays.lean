/- The small case: two timers fire in their order, and an old handle cancels nothing. -/
import Derived.Test.YtbmhhkpehilioaaSpeaks
namespace Go.Proofs.Ytbmhhkpehilioaa
open Go.ChangeShapes Go.WideShapes Go.ChangeAt Go.RowKit

def sA : Slot := ⟨5, 1, 0, 1⟩
def sB : Slot := ⟨3, 2, 1, 1⟩
def sC : Slot := ⟨9, 4, 2, 2⟩
theorem two_first {D : List Nat} (hp : D.Perm [0, 1]) (h : Hp (rk [sA, sB]) D) : gt D 0 = 1 := by
  have hl := hp.length_eq
  have h0 : 0 < D.length := by rw [hl]; decide
  have hm := hp.subset (gt_mem D 0 h0)
  have h1 := h.least_mem (hp.symm.subset (by simp : (1 : Nat) ∈ [0, 1]))
  simp only [List.mem_cons, List.not_mem_nil, or_false] at hm
  rcases hm with e | e
  · rw [e] at h1
    exact absurd h1 (by decide)
  · exact e
theorem two_fired {D fired D' : List Nat} (hp : D.Perm [0, 1]) (hf : (fired ++ D').Perm D) (hs : fired.Pairwise (fun x y => rk [sA, sB] x < rk [sA, sB] y)) (hd : ∀ y, y ∈ D' → (5 : Int) < (sg [sA, sB] y).when) : fired = [1, 0] ∧ D' = [] := by
  have hf := hf.trans hp
  have e : D' = [] := by
    cases D' with
    | nil => rfl
    | cons y l =>
      have hy := hf.subset (List.mem_append.2 (.inr (List.mem_cons_self)) : y ∈ fired ++ y :: l)
      have h5 := hd y List.mem_cons_self
      simp only [List.mem_cons, List.not_mem_nil, or_false] at hy
      rcases hy with rfl | rfl
      · exact absurd h5 (by decide)
      · exact absurd h5 (by decide)
  subst e
  rw [List.append_nil] at hf
  have hl := hf.length_eq
  match fired, hl, hs, hf with
  | [x, y], _, hs, hf =>
    have hx := hf.subset (by simp : x ∈ [x, y])
    have hy := hf.subset (by simp : y ∈ [x, y])
    have hnd : [x, y].Nodup := hf.nodup_iff.2 (by decide)
    simp only [List.mem_cons, List.not_mem_nil, or_false] at hx hy
    have hlt : rk [sA, sB] x < rk [sA, sB] y := by simpa using hs
    rcases hx with rfl | rfl <;> rcases hy with rfl | rfl
    · simp at hnd
    · exact absurd hlt (by decide)
    · exact ⟨rfl, rfl⟩
    · simp at hnd
theorem least_zero {F : List Nat} (hp : F.Perm (List.range 2)) (h : Hp (fun x => (x : Int)) F) : gt F 0 = 0 := by
  have h1 := h.least_mem (hp.symm.subset (by simp : (0 : Nat) ∈ List.range 2))
  omega

set_option maxHeartbeats 4000000 in
theorem speaks_any (w : World) : Calls Try.prog 11 #[] w fun e w' => e = .returned (.bool true) ∧ Cl w w' := by
  go_enter Try.func11, Try.ntmps11
  go_wp2_with fail
  refine (new_any w 2 (by omega) (by omega)).mono ?_
  rintro e w1 ⟨rfl, T1, C1, z1⟩
  have HC1 := hide C1
  have s1 := hide (set_any T1 (by omega) 5 1 (by omega) (by simp))
  clear T1 C1 z1
  go_wp2_with fail
  refine s1.out.mono ?_
  rintro e w2 ⟨i, S1, D1, F1, M1, rfl, pl, T2, p2, K2⟩
  cases pl with
  | old h0 _ => simp at h0
  | fresh _ =>
  have eD : D1 = [0] := by simpa using p2
  subst eD
  have T2 : Tm w2 w.heap.size w.heap.size 2 1 [sA] [0] [] M1 := T2
  have HK2 := hide K2
  have s2 := hide (set_any T2 (by omega) 3 2 (by omega) (by simp))
  clear T2 K2 p2 s1
  have e1 : ((sg ([] ++ [z0]) ([] : List Slot).length).gen + 1) * 4096 + (([] : List Slot).length : Int) = 4096 := by decide
  rw [e1]
  clear e1
  go_wp2_with fail
  refine s2.out.mono ?_
  rintro e w3 ⟨i, S1, D2, F2, M2, rfl, pl, T3, p3, K3⟩
  cases pl with
  | old h0 _ => simp at h0
  | fresh _ =>
  have T3 : Tm w3 w.heap.size w.heap.size 2 2 [sA, sB] D2 [] M2 := T3
  have p3 : D2.Perm [0, 1] := p3
  have hl2 : D2.length = 2 := p3.length_eq
  have hg0 := two_first p3 T3.inv.hD
  have HK3 := hide (HK2.out.trans K3)
  have HP3 := hide p3
  have s3 := hide (set_full T3 1 3 (by omega) (by omega))
  have HT3 := hide T3
  clear T3 K3 p3 s2 HK2
  have e1 : ((sg ([sA] ++ [z0]) [sA].length).gen + 1) * 4096 + ([sA].length : Int) = 4097 := by decide
  rw [e1]
  clear e1
  go_wp2_with fail
  refine s3.out.mono ?_
  rintro e w4 ⟨rfl, C4⟩
  have HC4 := hide C4
  have n4 := next_some (HT3.out.cl C4) (by omega)
  rw [hg0] at n4
  have e3 : (sg [sA, sB] 1).when = 3 := rfl
  rw [e3] at n4
  have HN4 := hide n4
  clear C4 n4 e3 s3
  go_wp2_with fail
  refine HN4.out.mono ?_
  rintro e w5 ⟨rfl, C5⟩
  have HC5 := hide (HC4.out.trans C5)
  have f5 := hide (fire_any (HT3.out.cl (HC4.out.trans C5)) (by omega) 5)
  clear C5 HN4
  go_wp2_with fail
  refine f5.out.mono ?_
  rintro e w6 ⟨v6, D6, F6, M6, fired, rfl, fd, hdue⟩
  obtain ⟨e1, e2⟩ := two_fired HP3.out fd.perm fd.sorted hdue
  subst e1 e2
  have pF : F6.Perm (List.range 2) := by have := fd.tm.inv.perm; simpa using this
  have hl6 : F6.length = 2 := by have := pF.length_eq; simpa using this
  have z6 := least_zero pF fd.tm.inv.hF
  have HFD := hide fd
  have HK6 := hide ((HK3.out.trans (Kept.cl HC5.out)).trans fd.kept)
  obtain ⟨a6, c6, hv6, _⟩ := owns_shape fd.row
  have s6 := hide (set_any fd.tm (by omega) 9 4 (by omega) (by simp))
  subst hv6
  clear fd hdue f5 pF HP3 HT3
  go_wp2_with fail
  refine s6.out.mono ?_
  rintro e w7 ⟨i, S1, D7, F7, M7, rfl, pl, T7, p7, K7⟩
  cases pl with
  | fresh h0 => rw [h0] at hl6; simp at hl6
  | old h0 hpf =>
  rw [z6] at T7 p7
  have eD : D7 = [0] := by simpa using p7
  subst eD
  have T7 : Tm w7 w.heap.size w.heap.size 2 3 [sC, sB] [0] F7 M7 := T7
  have hrow : w7.ownsRow w5.heap.size 3 1 (.slice a6 [1, 0].length c6) [1, 0].length (keys [sA, sB] [1, 0]) := owns_frame HFD.out.row K7.fr HFD.out.apart
  have HK7 := hide (HK6.out.trans K7)
  rw [z6]
  have e1 : ((sg [sA, sB] 0).gen + 1) * 4096 + ((0 : Nat) : Int) = 8192 := by decide
  rw [e1]
  have HT7 := hide T7
  have HR7 := hide hrow
  clear T7 K7 p7 s6 hrow e1 HFD HK6 hpf
  go_wp2_with fail
  have A8 : Cl w7 (w7.alloc (.cells #[Value.int .i64 2, Value.int .i64 1] 3)) := Fr.alloc _ _ _
  have ia : SlI (w7.alloc (.cells #[Value.int .i64 2, Value.int .i64 1] 3)) (.slice a6 2 c6) [2, 1] := SlI.row (n := 2) (owns_frame HR7.out A8.out (fun _ _ x => x))
  have ib : SlI (w7.alloc (.cells #[Value.int .i64 2, Value.int .i64 1] 3)) (.slice (some ⟨w7.heap.size, 0, none⟩) 2 2) [2, 1] := by
    refine ⟨_, _, rfl, Nat.le_refl _, fun i hi => ⟨w7.heap.size, 0, rfl, ?_⟩⟩
    rw [cell_of (hp_new w7 _), Nat.zero_add]
    match i, hi with
    | 0, _ => rfl
    | 1, _ => rfl
  have q8 := ints_any ia ib (by decide)
  rw [decide_eq_true (rfl : ([2, 1] : List Int) = [2, 1])] at q8
  have HQ8 := hide q8
  have HA8 := hide A8
  clear ia ib q8 A8 HR7
  refine HQ8.out.mono ?_
  rintro e w8 ⟨rfl, C8⟩
  have HC8 := hide (HA8.out.trans C8)
  have HT8 := hide (HT7.out.cl (HA8.out.trans C8))
  have c8 := hide (cancel_any HT8.out (by omega) 4096 (by omega))
  have hno : Hid (¬ Hs [sC, sB] [0] 4096) := hide (by
    rintro ⟨i, hi, he⟩
    simp only [List.mem_singleton] at hi
    subst hi
    exact absurd he (by decide))
  clear C8 HQ8 HA8 HT7
  go_wp2_with fail
  refine c8.out.mono ?_
  rintro e w9 (⟨rfl, rfl, _⟩ | ⟨rfl, i, D', F', M', he, _, hp, _⟩)
  · have h9 := hide (has_any HT8.out 8192 (by omega))
    have hyes : Hid (Hs [sC, sB] [0] 8192) := hide ⟨0, by simp, by decide⟩
    clear c8
    go_wp2_with fail
    refine h9.out.mono ?_
    rintro e w10 ⟨r, rfl, rfl, hr⟩
    have er : r = true := hr.2 hyes.out
    subst er
    obtain ⟨vs, vd, vf, ho, _⟩ := HT8.out.obj
    have l9 := hide (len_any ho)
    clear ho h9 hr
    go_wp2_with fail
    refine l9.out.mono ?_
    rintro e w11 ⟨rfl, rfl⟩
    go_wp2_with fail
    go_ret
    refine ⟨rfl, (HC1.out.out.trans HK7.out.fr (fun i hi hm => by omega)).trans HC8.out.out (fun _ _ x => x)⟩
  · exact (hno.out ⟨i, hp.subset List.mem_cons_self, he⟩).elim
end Go.Proofs.Ytbmhhkpehilioaa
