/- WK: TLoc. -/
import Derived.Test.YtacnnomkacfdbaaGreatDoorWJ
import Derived.Test.YtacnnomkacfdbaaGreatDoorWD
/- The document's path and query. -/
namespace Go.Proofs.YtacnnomkacfdbaaGreatDoor
open Go.ChangeShapes Go.WideShapes Go.ChangeAt Go.RowKit

theorem index_first : ∀ (l : List UInt8) (c : UInt8) (k : Nat), (l.take k).contains c = false → l[k]? = some c → Lib.indexByte l c = k
  | [], _, _, _, h => by simp at h
  | a :: r, c, 0, _, h => by
    simp at h
    subst h
    simp [Lib.indexByte]
  | a :: r, c, k + 1, hn, h => by
    rw [List.take_succ_cons] at hn
    simp only [List.contains_cons, Bool.or_eq_false_iff] at hn
    have ih := index_first r c k hn.2 (by simpa using h)
    unfold Lib.indexByte
    rw [if_neg (by have := hn.1; simp at this ⊢; exact fun e => this e.symm), ih, if_neg (by simp)]
    omega
theorem index_no : ∀ (l : List UInt8) (c : UInt8), l.contains c = false → Lib.indexByte l c = -1
  | [], _, _ => rfl
  | a :: r, c, hn => by
    simp only [List.contains_cons, Bool.or_eq_false_iff] at hn
    have ih := index_no r c hn.2
    unfold Lib.indexByte
    rw [if_neg (by have := hn.1; simp at this ⊢; exact fun e => this e.symm), ih]
    rfl
theorem cut_found {s : ByteArray} {k : Nat} (h : k < s.size) (hn : (s.data.toList.take k).contains 63 = false) (hc : s[k] = 63) : cutP s = s.extract 0 k ∧ cutQ s = s.extract (k + 1) s.size ∧ cutA s = true := by
  have hi : Lib.indexB s qm = k := by
    show Lib.index s.data.toList [63] = k
    rw [Lib.index_one]
    refine index_first _ _ _ hn ?_
    rw [← hc, List.getElem?_eq_getElem (by rw [size_len]; exact h)]
    rfl
  exact Lib.cutB_hit s qm k hi
theorem cut_none {s : ByteArray} (hn : s.data.toList.contains 63 = false) : cutP s = s ∧ cutQ s = ⟨#[]⟩ ∧ cutA s = false := by
  have hi : Lib.indexB s qm = -1 := by
    show Lib.index s.data.toList [63] = -1
    rw [Lib.index_one]
    exact index_no _ _ hn
  exact Lib.cutB_miss s qm hi

set_option maxHeartbeats 4000000 in
theorem rlocal_any (f : Int) (h : ByteArray) (p : Int) (s : ByteArray) (w : World) (hs : s.size ≤ 8200) (h0 : 0 < s.size) (hd : s[0] = 47) :
    Calls Tryz.prog 98 #[tgV f h p ⟨#[]⟩ ⟨#[]⟩ false, .string s] w fun e w' => e = .returned (.tuple #[tgV f h p (cutP s) (cutQ s) (cutA s), .bool (locB s)]) ∧ Below w.heap.size w w' := by
  have hcs := cut_size s
  have hm1 := fun w => rmade_any (cutP s) ⟨#[45, 46, 95, 126, 33, 36, 38, 39, 40, 41, 42, 43, 44, 59, 61, 58, 64, 47]⟩ w (by omega) (by unfold maxLen; decide)
  have hm2 := fun w => rmade_any (cutQ s) ⟨#[45, 46, 95, 126, 33, 36, 38, 39, 40, 41, 42, 43, 44, 59, 61, 58, 64, 47, 63]⟩ w (by omega) (by unfold maxLen; decide)
  rw [show (⟨#[45, 46, 95, 126, 33, 36, 38, 39, 40, 41, 42, 43, 44, 59, 61, 58, 64, 47]⟩ : ByteArray).data.toList = pathMarks from rfl] at hm1
  rw [show (⟨#[45, 46, 95, 126, 33, 36, 38, 39, 40, 41, 42, 43, 44, 59, 61, 58, 64, 47, 63]⟩ : ByteArray).data.toList = queryMarks from rfl] at hm2
  unfold locB
  generalize holdsB pathMarks (cutP s).data.toList = b1 at hm1 ⊢
  generalize holdsB queryMarks (cutQ s).data.toList = b2 at hm2 ⊢
  unfold tgV
  have HM1 := hide hm1
  have HM2 := hide hm2
  have HCF := hide (fun k => @cut_found s k)
  have HCN := hide (@cut_none s)
  have HD0 := hide hd
  have td : (((s[0].toNat : Int)) == 47) = true := by rw [hd]; rfl
  clear hm1 hm2 hd
  generalize cutP s = pa at hcs HM1 HCF HCN ⊢
  generalize cutQ s = qu at hcs HM2 HCF HCN ⊢
  generalize cutA s = ask at HCF HCN ⊢
  go_enter Tryz.func98, Tryz.ntmps98
  go_wp2
  have T0 := hide (Two.start w #[.int .i64 f, .string h, .int .i64 p, .string s, .string ⟨#[]⟩, .bool false] #[.int .i64 0, .string ⟨#[]⟩, .int .i64 0, .string ⟨#[]⟩, .string ⟨#[]⟩, .bool false])
  generalize ((w.alloc (.cells #[.int .i64 f, .string h, .int .i64 p, .string s, .string ⟨#[]⟩, .bool false] 53)).alloc (.cells #[.int .i64 0, .string ⟨#[]⟩, .int .i64 0, .string ⟨#[]⟩, .string ⟨#[]⟩, .bool false] 53)) = x at T0 ⊢
  go_loop [6] (fun i => ∃ k : Nat, k ≤ s.size ∧ i = .int .i64 k ∧ Hid ((s.data.toList.take k).contains 63 = false)) (fun i => s.size - (intOf i).toNat)
  case atStart => exact ⟨0, Nat.zero_le _, rfl, hide (by simp)⟩
  case round =>
    obtain ⟨k, hk, rfl, H⟩ := hrel
    by_cases hlt : k < s.size
    · have hb := byte_lt s[k]
      by_cases he : s[k] = 63
      · have t : (((s[k].toNat : Int)) == 63) = true := by rw [he]; rfl
        obtain ⟨e1, e2, e3⟩ := HCF.out k hlt H.out he
        have hk0 : 0 < k := by
          rcases Nat.eq_zero_or_pos k with e | e
          · subst e; rw [HD0.out] at he; exact absurd he (by decide)
          · exact e
        have zp : pa.size = k := by rw [e1, ext_size]; omega
        have hp0 : (0 : Int) < (pa.size : Int) := by omega
        have zp0 : 0 < pa.size := by omega
        have hpb : pa[0] = 47 := by
          have : pa.data.toList[0]? = some 47 := by rw [e1, ext_take, List.getElem?_take, if_pos hk0, ← HD0.out, List.getElem?_eq_getElem (by rw [size_len]; exact h0)]; rfl
          obtain ⟨_, h2⟩ := List.getElem?_eq_some_iff.1 this
          exact h2
        have tp : (((pa[0].toNat : Int)) == 47) = true := by rw [hpb]; rfl
        subst e3
        have c3 : x.cell? ⟨w.heap.size, 3, none⟩ = some (.string s) := T0.out.cell0 3
        have c4 : x.cell? ⟨w.heap.size, 4, none⟩ = some (.string ⟨#[]⟩) := T0.out.cell0 4
        have c5 : x.cell? ⟨w.heap.size, 5, none⟩ = some (.bool false) := T0.out.cell0 5
        have f3 := T0.out.fr0 3
        have f4 := T0.out.fr0 4
        have f5 := T0.out.fr0 5
        have E1 := e1.symm
        have E2 := e2.symm
        clear he HCF HCN zp e1 e2 hpb
        go_wp2_with fail
        have T3 := hide (((T0.out.set0 3 (.string pa)).set0 4 (.string qu)).set0 5 (.bool true))
        clear T0 c3 c4 c5 f3 f4 f5 E1 E2
        generalize (((x.setCell ⟨w.heap.size, 3, none⟩ (.string pa)).setCell ⟨w.heap.size, 4, none⟩ (.string qu)).setCell ⟨w.heap.size, 5, none⟩ (.bool true)) = y at T3 ⊢
        have d0 : y.cell? ⟨w.heap.size, 0, none⟩ = some (.int .i64 f) := T3.out.cell0 0
        have d1 : y.cell? ⟨w.heap.size, 1, none⟩ = some (.string h) := T3.out.cell0 1
        have d2 : y.cell? ⟨w.heap.size, 2, none⟩ = some (.int .i64 p) := T3.out.cell0 2
        have d3 : y.cell? ⟨w.heap.size, 3, none⟩ = some (.string pa) := T3.out.cell0 3
        have d4 : y.cell? ⟨w.heap.size, 4, none⟩ = some (.string qu) := T3.out.cell0 4
        have d5 : y.cell? ⟨w.heap.size, 5, none⟩ = some (.bool true) := T3.out.cell0 5
        have r0 : y.cell? ⟨w.heap.size + 1, 0, none⟩ = some (.int .i64 0) := T3.out.cell1 0
        have r1 : y.cell? ⟨w.heap.size + 1, 1, none⟩ = some (.string ⟨#[]⟩) := T3.out.cell1 1
        have r2 : y.cell? ⟨w.heap.size + 1, 2, none⟩ = some (.int .i64 0) := T3.out.cell1 2
        have r3 : y.cell? ⟨w.heap.size + 1, 3, none⟩ = some (.string ⟨#[]⟩) := T3.out.cell1 3
        have r4 : y.cell? ⟨w.heap.size + 1, 4, none⟩ = some (.string ⟨#[]⟩) := T3.out.cell1 4
        have r5 : y.cell? ⟨w.heap.size + 1, 5, none⟩ = some (.bool false) := T3.out.cell1 5
        have g0 := T3.out.fr1 0
        have g1 := T3.out.fr1 1
        have g2 := T3.out.fr1 2
        have g3 := T3.out.fr1 3
        have g4 := T3.out.fr1 4
        have g5 := T3.out.fr1 5
        refine (HM1.out _).mono ?_
        rintro e w' ⟨rfl, rfl⟩
        cases b1 with
        | false =>
          go_wp2
          have T9 := hide ((((((T3.out.set1 0 (.int .i64 f)).set1 1 (.string h)).set1 2 (.int .i64 p)).set1 3 (.string pa)).set1 4 (.string qu)).set1 5 (.bool true))
          generalize ((((((y.setCell ⟨w.heap.size + 1, 0, none⟩ (.int .i64 f)).setCell ⟨w.heap.size + 1, 1, none⟩ (.string h)).setCell ⟨w.heap.size + 1, 2, none⟩ (.int .i64 p)).setCell ⟨w.heap.size + 1, 3, none⟩ (.string pa)).setCell ⟨w.heap.size + 1, 4, none⟩ (.string qu)).setCell ⟨w.heap.size + 1, 5, none⟩ (.bool true)) = w9 at T9 ⊢
          have k0 : w9.cell? ⟨w.heap.size + 1, 0, none⟩ = some (.int .i64 f) := T9.out.cell1 0
          have k1 : w9.cell? ⟨w.heap.size + 1, 1, none⟩ = some (.string h) := T9.out.cell1 1
          have k2 : w9.cell? ⟨w.heap.size + 1, 2, none⟩ = some (.int .i64 p) := T9.out.cell1 2
          have k3 : w9.cell? ⟨w.heap.size + 1, 3, none⟩ = some (.string pa) := T9.out.cell1 3
          have k4 : w9.cell? ⟨w.heap.size + 1, 4, none⟩ = some (.string qu) := T9.out.cell1 4
          have k5 : w9.cell? ⟨w.heap.size + 1, 5, none⟩ = some (.bool true) := T9.out.cell1 5
          clear d0 d1 d2 d3 d4 d5 r0 r1 r2 r3 r4 r5 g0 g1 g2 g3 g4 g5
          exact bodyPost_ret (v := .tuple #[.agg #[.int .i64 f, .string h, .int .i64 p, .string pa, .string qu, .bool true], .bool false]) (by simp [results, Tryz.results98, go_sem, k0, k1, k2, k3, k4, k5]) rfl ⟨rfl, T9.out.b⟩
        | true =>
          go_wp2_with fail
          refine (HM2.out _).mono ?_
          rintro e w' ⟨rfl, rfl⟩
          cases b2 with
          | false =>
            go_wp2
            have T9 := hide ((((((T3.out.set1 0 (.int .i64 f)).set1 1 (.string h)).set1 2 (.int .i64 p)).set1 3 (.string pa)).set1 4 (.string qu)).set1 5 (.bool true))
            generalize ((((((y.setCell ⟨w.heap.size + 1, 0, none⟩ (.int .i64 f)).setCell ⟨w.heap.size + 1, 1, none⟩ (.string h)).setCell ⟨w.heap.size + 1, 2, none⟩ (.int .i64 p)).setCell ⟨w.heap.size + 1, 3, none⟩ (.string pa)).setCell ⟨w.heap.size + 1, 4, none⟩ (.string qu)).setCell ⟨w.heap.size + 1, 5, none⟩ (.bool true)) = w9 at T9 ⊢
            have k0 : w9.cell? ⟨w.heap.size + 1, 0, none⟩ = some (.int .i64 f) := T9.out.cell1 0
            have k1 : w9.cell? ⟨w.heap.size + 1, 1, none⟩ = some (.string h) := T9.out.cell1 1
            have k2 : w9.cell? ⟨w.heap.size + 1, 2, none⟩ = some (.int .i64 p) := T9.out.cell1 2
            have k3 : w9.cell? ⟨w.heap.size + 1, 3, none⟩ = some (.string pa) := T9.out.cell1 3
            have k4 : w9.cell? ⟨w.heap.size + 1, 4, none⟩ = some (.string qu) := T9.out.cell1 4
            have k5 : w9.cell? ⟨w.heap.size + 1, 5, none⟩ = some (.bool true) := T9.out.cell1 5
            clear d0 d1 d2 d3 d4 d5 r0 r1 r2 r3 r4 r5 g0 g1 g2 g3 g4 g5
            exact bodyPost_ret (v := .tuple #[.agg #[.int .i64 f, .string h, .int .i64 p, .string pa, .string qu, .bool true], .bool false]) (by simp [results, Tryz.results98, go_sem, k0, k1, k2, k3, k4, k5]) rfl ⟨rfl, T9.out.b⟩
          | true =>
            go_wp2
            have T9 := hide ((((((T3.out.set1 0 (.int .i64 f)).set1 1 (.string h)).set1 2 (.int .i64 p)).set1 3 (.string pa)).set1 4 (.string qu)).set1 5 (.bool true))
            generalize ((((((y.setCell ⟨w.heap.size + 1, 0, none⟩ (.int .i64 f)).setCell ⟨w.heap.size + 1, 1, none⟩ (.string h)).setCell ⟨w.heap.size + 1, 2, none⟩ (.int .i64 p)).setCell ⟨w.heap.size + 1, 3, none⟩ (.string pa)).setCell ⟨w.heap.size + 1, 4, none⟩ (.string qu)).setCell ⟨w.heap.size + 1, 5, none⟩ (.bool true)) = w9 at T9 ⊢
            have k0 : w9.cell? ⟨w.heap.size + 1, 0, none⟩ = some (.int .i64 f) := T9.out.cell1 0
            have k1 : w9.cell? ⟨w.heap.size + 1, 1, none⟩ = some (.string h) := T9.out.cell1 1
            have k2 : w9.cell? ⟨w.heap.size + 1, 2, none⟩ = some (.int .i64 p) := T9.out.cell1 2
            have k3 : w9.cell? ⟨w.heap.size + 1, 3, none⟩ = some (.string pa) := T9.out.cell1 3
            have k4 : w9.cell? ⟨w.heap.size + 1, 4, none⟩ = some (.string qu) := T9.out.cell1 4
            have k5 : w9.cell? ⟨w.heap.size + 1, 5, none⟩ = some (.bool true) := T9.out.cell1 5
            clear d0 d1 d2 d3 d4 d5 r0 r1 r2 r3 r4 r5 g0 g1 g2 g3 g4 g5
            exact bodyPost_ret (v := .tuple #[.agg #[.int .i64 f, .string h, .int .i64 p, .string pa, .string qu, .bool true], .bool true]) (by simp [results, Tryz.results98, go_sem, k0, k1, k2, k3, k4, k5]) rfl ⟨rfl, T9.out.b⟩
      · have t : (((s[k].toNat : Int)) == 63) = false := beq_eq_false_iff_ne.2 (fun e => he (byte_is (n := 63) (by omega) (by decide)))
        have HN : Hid ((s.data.toList.take (k + 1)).contains 63 = false) := hide (by rw [contains_snocT s k hlt, H.out, beq_eq_false_iff_ne.2 (fun e => he e.symm)]; rfl)
        clear he
        go_wp2
        exact ⟨⟨k + 1, by omega, by go_num, HN⟩, by simp [intOf]; omega⟩
    · obtain ⟨e1, e2, e3⟩ := HCN.out (by rw [← H.out, take_all s k (by omega)])
      subst e1 e2 e3
      have hp0 : (0 : Int) < (pa.size : Int) := by omega
      clear HCF HCN
      have d0 : x.cell? ⟨w.heap.size, 0, none⟩ = some (.int .i64 f) := T0.out.cell0 0
      have d1 : x.cell? ⟨w.heap.size, 1, none⟩ = some (.string h) := T0.out.cell0 1
      have d2 : x.cell? ⟨w.heap.size, 2, none⟩ = some (.int .i64 p) := T0.out.cell0 2
      have d3 : x.cell? ⟨w.heap.size, 3, none⟩ = some (.string pa) := T0.out.cell0 3
      have d4 : x.cell? ⟨w.heap.size, 4, none⟩ = some (.string ⟨#[]⟩) := T0.out.cell0 4
      have d5 : x.cell? ⟨w.heap.size, 5, none⟩ = some (.bool false) := T0.out.cell0 5
      have r0 : x.cell? ⟨w.heap.size + 1, 0, none⟩ = some (.int .i64 0) := T0.out.cell1 0
      have r1 : x.cell? ⟨w.heap.size + 1, 1, none⟩ = some (.string ⟨#[]⟩) := T0.out.cell1 1
      have r2 : x.cell? ⟨w.heap.size + 1, 2, none⟩ = some (.int .i64 0) := T0.out.cell1 2
      have r3 : x.cell? ⟨w.heap.size + 1, 3, none⟩ = some (.string ⟨#[]⟩) := T0.out.cell1 3
      have r4 : x.cell? ⟨w.heap.size + 1, 4, none⟩ = some (.string ⟨#[]⟩) := T0.out.cell1 4
      have r5 : x.cell? ⟨w.heap.size + 1, 5, none⟩ = some (.bool false) := T0.out.cell1 5
      have g0 := T0.out.fr1 0
      have g1 := T0.out.fr1 1
      have g2 := T0.out.fr1 2
      have g3 := T0.out.fr1 3
      have g4 := T0.out.fr1 4
      have g5 := T0.out.fr1 5
      go_wp2_with fail
      refine (HM1.out _).mono ?_
      rintro e w' ⟨rfl, rfl⟩
      cases b1 with
      | false =>
        go_wp2
        have T9 := hide ((((((T0.out.set1 0 (.int .i64 f)).set1 1 (.string h)).set1 2 (.int .i64 p)).set1 3 (.string pa)).set1 4 (.string ⟨#[]⟩)).set1 5 (.bool false))
        generalize ((((((x.setCell ⟨w.heap.size + 1, 0, none⟩ (.int .i64 f)).setCell ⟨w.heap.size + 1, 1, none⟩ (.string h)).setCell ⟨w.heap.size + 1, 2, none⟩ (.int .i64 p)).setCell ⟨w.heap.size + 1, 3, none⟩ (.string pa)).setCell ⟨w.heap.size + 1, 4, none⟩ (.string ⟨#[]⟩)).setCell ⟨w.heap.size + 1, 5, none⟩ (.bool false)) = w9 at T9 ⊢
        have k0 : w9.cell? ⟨w.heap.size + 1, 0, none⟩ = some (.int .i64 f) := T9.out.cell1 0
        have k1 : w9.cell? ⟨w.heap.size + 1, 1, none⟩ = some (.string h) := T9.out.cell1 1
        have k2 : w9.cell? ⟨w.heap.size + 1, 2, none⟩ = some (.int .i64 p) := T9.out.cell1 2
        have k3 : w9.cell? ⟨w.heap.size + 1, 3, none⟩ = some (.string pa) := T9.out.cell1 3
        have k4 : w9.cell? ⟨w.heap.size + 1, 4, none⟩ = some (.string ⟨#[]⟩) := T9.out.cell1 4
        have k5 : w9.cell? ⟨w.heap.size + 1, 5, none⟩ = some (.bool false) := T9.out.cell1 5
        clear d0 d1 d2 d3 d4 d5 r0 r1 r2 r3 r4 r5 g0 g1 g2 g3 g4 g5
        exact bodyPost_ret (v := .tuple #[.agg #[.int .i64 f, .string h, .int .i64 p, .string pa, .string ⟨#[]⟩, .bool false], .bool false]) (by simp [results, Tryz.results98, go_sem, k0, k1, k2, k3, k4, k5]) rfl ⟨rfl, T9.out.b⟩
      | true =>
        go_wp2_with fail
        refine (HM2.out _).mono ?_
        rintro e w' ⟨rfl, rfl⟩
        cases b2 with
        | false =>
          go_wp2
          have T9 := hide ((((((T0.out.set1 0 (.int .i64 f)).set1 1 (.string h)).set1 2 (.int .i64 p)).set1 3 (.string pa)).set1 4 (.string ⟨#[]⟩)).set1 5 (.bool false))
          generalize ((((((x.setCell ⟨w.heap.size + 1, 0, none⟩ (.int .i64 f)).setCell ⟨w.heap.size + 1, 1, none⟩ (.string h)).setCell ⟨w.heap.size + 1, 2, none⟩ (.int .i64 p)).setCell ⟨w.heap.size + 1, 3, none⟩ (.string pa)).setCell ⟨w.heap.size + 1, 4, none⟩ (.string ⟨#[]⟩)).setCell ⟨w.heap.size + 1, 5, none⟩ (.bool false)) = w9 at T9 ⊢
          have k0 : w9.cell? ⟨w.heap.size + 1, 0, none⟩ = some (.int .i64 f) := T9.out.cell1 0
          have k1 : w9.cell? ⟨w.heap.size + 1, 1, none⟩ = some (.string h) := T9.out.cell1 1
          have k2 : w9.cell? ⟨w.heap.size + 1, 2, none⟩ = some (.int .i64 p) := T9.out.cell1 2
          have k3 : w9.cell? ⟨w.heap.size + 1, 3, none⟩ = some (.string pa) := T9.out.cell1 3
          have k4 : w9.cell? ⟨w.heap.size + 1, 4, none⟩ = some (.string ⟨#[]⟩) := T9.out.cell1 4
          have k5 : w9.cell? ⟨w.heap.size + 1, 5, none⟩ = some (.bool false) := T9.out.cell1 5
          clear d0 d1 d2 d3 d4 d5 r0 r1 r2 r3 r4 r5 g0 g1 g2 g3 g4 g5
          exact bodyPost_ret (v := .tuple #[.agg #[.int .i64 f, .string h, .int .i64 p, .string pa, .string ⟨#[]⟩, .bool false], .bool false]) (by simp [results, Tryz.results98, go_sem, k0, k1, k2, k3, k4, k5]) rfl ⟨rfl, T9.out.b⟩
        | true =>
          go_wp2
          have T9 := hide ((((((T0.out.set1 0 (.int .i64 f)).set1 1 (.string h)).set1 2 (.int .i64 p)).set1 3 (.string pa)).set1 4 (.string ⟨#[]⟩)).set1 5 (.bool false))
          generalize ((((((x.setCell ⟨w.heap.size + 1, 0, none⟩ (.int .i64 f)).setCell ⟨w.heap.size + 1, 1, none⟩ (.string h)).setCell ⟨w.heap.size + 1, 2, none⟩ (.int .i64 p)).setCell ⟨w.heap.size + 1, 3, none⟩ (.string pa)).setCell ⟨w.heap.size + 1, 4, none⟩ (.string ⟨#[]⟩)).setCell ⟨w.heap.size + 1, 5, none⟩ (.bool false)) = w9 at T9 ⊢
          have k0 : w9.cell? ⟨w.heap.size + 1, 0, none⟩ = some (.int .i64 f) := T9.out.cell1 0
          have k1 : w9.cell? ⟨w.heap.size + 1, 1, none⟩ = some (.string h) := T9.out.cell1 1
          have k2 : w9.cell? ⟨w.heap.size + 1, 2, none⟩ = some (.int .i64 p) := T9.out.cell1 2
          have k3 : w9.cell? ⟨w.heap.size + 1, 3, none⟩ = some (.string pa) := T9.out.cell1 3
          have k4 : w9.cell? ⟨w.heap.size + 1, 4, none⟩ = some (.string ⟨#[]⟩) := T9.out.cell1 4
          have k5 : w9.cell? ⟨w.heap.size + 1, 5, none⟩ = some (.bool false) := T9.out.cell1 5
          clear d0 d1 d2 d3 d4 d5 r0 r1 r2 r3 r4 r5 g0 g1 g2 g3 g4 g5
          exact bodyPost_ret (v := .tuple #[.agg #[.int .i64 f, .string h, .int .i64 p, .string pa, .string ⟨#[]⟩, .bool false], .bool true]) (by simp [results, Tryz.results98, go_sem, k0, k1, k2, k3, k4, k5]) rfl ⟨rfl, T9.out.b⟩
end Go.Proofs.YtacnnomkacfdbaaGreatDoor
