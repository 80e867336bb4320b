/- New and Feed. -/
import Derived.Test.YtggeihahbgeneaaDoorCSt
namespace Go.Proofs.YtggeihahbgeneaaDoor
open Go.ChangeShapes Go.WideShapes Go.ChangeAt Go.RowKit

def dNew (most : Nat) : Dz := ⟨fnSize, most, 0, [], false, [], false, 0⟩
theorem fit_dnew (most : Nat) (h : most ≤ 9007199254740992) : FitD (dNew most) := ⟨.inl rfl, h, Nat.zero_le _, Nat.zero_le _, Nat.zero_le _, fun _ => rfl⟩
def overB (d : Dz) : Bool := d.whole || decide (d.wrong ≠ 0)
def dForget (d : Dz) : Dz := { d with line := if overB d then [] else d.line, tr := if d.wrong = 0 then d.tr else [] }
/-- What one piece makes of a decoder: the bytes told, how many were read, the decoder behind it. -/
def dFeed (d : Dz) (l : List UInt8) : List UInt8 × Nat × Dz :=
  if overB d then ([], 0, dForget d) else ((dBytes d l).2.2.1, (dBytes d l).2.1, dForget { (dBytes d l).2.2.2 with wrong := (dBytes d l).1 })
theorem new_bad (most : Int) (w : World) (h : most < 0 ∨ 9007199254740992 < most) :
    Calls Tryd.prog 22 #[.int .i64 most] w fun e w' => e = .returned (.tuple #[.pointer none, .int .i64 1]) ∧ w = w' := by
  by_cases h1 : most < 0
  · go_enter Tryd.func22, Tryd.ntmps22
    go_wp2
    go_ret2
    exact ⟨rfl, rfl⟩
  · have h2 : 9007199254740992 < most := by omega
    clear h
    go_enter Tryd.func22, Tryd.ntmps22
    go_wp2
    go_ret2
    exact ⟨rfl, rfl⟩
theorem dec_new {W : World} {base g : Nat} (d : Dz) (h : W.heap[g]? = some (.cells (dcells d g (.slice none 0 0) (.slice none 0 0)) 81 (0, 0))) (hb : base ≤ g) (hl : d.line = []) (hf : d.tr = []) : Dec W base g (.slice none 0 0) (.slice none 0 0) d := by
  refine ⟨h, ?_, ?_, hb, by simp [Value.ownBlock], by simp [Value.ownBlock], by intro k e; simp [Value.ownBlock] at e⟩
  · rw [hl]; exact Row.nil _ _ _
  · rw [hf]; exact FRow.nil _ _
set_option maxHeartbeats 2000000 in
theorem new_any (most : Nat) (w : World) (h2 : most ≤ 9007199254740992) :
    Calls Tryd.prog 22 #[.int .i64 (most : Int)] w fun e w' => e = .returned (.tuple #[.pointer (some ⟨w.heap.size, 0, none⟩), .int .i64 0]) ∧ Dec w' w.heap.size w.heap.size (.slice none 0 0) (.slice none 0 0) (dNew most) ∧ Below w.heap.size w w' := by
  have t1 : ¬ (most : Int) < 0 := by omega
  have t2 : ¬ (9007199254740992 : Int) < (most : Int) := by omega
  go_enter Tryd.func22, Tryd.ntmps22
  go_upto_region 4 with fail
  have HB := hide ((Below.refl w.heap.size w).alloc (Nat.le_refl _) (.cells #[.nilFunc, .int .i64 (most : Int), .int .i64 0, .slice none 0 0, .bool false, .slice none 0 0, .bool false, .int .i64 0] 81))
  have HD := hide (hp_new w (.cells #[.nilFunc, .int .i64 (most : Int), .int .i64 0, .slice none 0 0, .bool false, .slice none 0 0, .bool false, .int .i64 0] 81))
  generalize w.alloc (.cells #[.nilFunc, .int .i64 (most : Int), .int .i64 0, .slice none 0 0, .bool false, .slice none 0 0, .bool false, .int .i64 0] 81) = x at HB HD ⊢
  have d0 : x.cell? ⟨w.heap.size, 0, none⟩ = some .nilFunc := cell_at HD.out 0
  have f0 : x.frozen? ⟨w.heap.size, 0, none⟩ = false := by rw [frozen_at HD.out]; simp
  go_wp2_with fail
  go_ret2
  exact ⟨rfl, dec_new (dNew most) (hp_set HD.out 0 (stV fnSize w.heap.size)) (Nat.le_refl _) rfl rfl, HB.out.setCell (p := ⟨w.heap.size, 0, none⟩) (Nat.le_refl _) (stV fnSize w.heap.size)⟩
theorem over_any {w : World} {base g : Nat} {lv tv : Value} {d : Dz} (h : Dec w base g lv tv d) : Calls Tryd.prog 106 #[.pointer (some ⟨g, 0, none⟩)] w fun e w' => e = .returned (.bool (overB d)) ∧ w = w' := by
  have c6 : w.cell? ⟨g, 6, none⟩ = some (.bool d.whole) := h.cell 6
  have c7 : w.cell? ⟨g, 7, none⟩ = some (.int .i64 (d.wrong : Int)) := h.cell 7
  clear h
  obtain ⟨O, hO⟩ : ∃ O, overB d = O := ⟨_, rfl⟩
  rw [hO]
  unfold overB at hO
  have HO := hide hO
  clear hO
  cases hw : d.whole with
  | true =>
    rw [hw] at c6
    have HW := hide hw
    clear hw
    go_enter Tryd.func106, Tryd.ntmps106
    go_wp2
    go_ret
    exact ⟨ret_bool (by rw [← HO.out, HW.out]; rfl), rfl⟩
  | false =>
    rw [hw] at c6
    have HW := hide hw
    clear hw
    by_cases h1 : d.wrong = 0
    · have t1 : ((d.wrong : Int) != 0) = false := by rw [bne_eq_false_iff_eq]; omega
      have H1 := hide h1
      clear h1
      go_enter Tryd.func106, Tryd.ntmps106
      go_wp2
      go_ret
      exact ⟨ret_bool (by rw [← HO.out, HW.out, H1.out]; rfl), rfl⟩
    · have t1 : ((d.wrong : Int) != 0) = true := bne_iff_ne.2 (by omega)
      have H1 := hide h1
      clear h1
      go_enter Tryd.func106, Tryd.ntmps106
      go_wp2
      go_ret
      exact ⟨ret_bool (by rw [← HO.out, HW.out]; simp [H1.out]), rfl⟩
theorem Dec.nilL {w : World} {base g : Nat} {lv fv : Value} {d : Dz} (h : Dec w base g lv fv d) : Dec (w.setCell ⟨g, 3, none⟩ (.slice none 0 0)) base g (.slice none 0 0) fv { d with line := [] } := by
  refine ⟨hp_set h.blk 3 (.slice none 0 0), Row.nil _ _ _, ?_, h.gb, by simp [Value.ownBlock], h.gf, by intro k e; simp [Value.ownBlock] at e⟩
  exact h.trs.frame fun k hk => Below.heap_setCell w ⟨g, 3, none⟩ _ k (fun e => h.gf (by rw [hk, e]))
theorem Dec.nilF {w : World} {base g : Nat} {lv fv : Value} {d : Dz} (h : Dec w base g lv fv d) : Dec (w.setCell ⟨g, 5, none⟩ (.slice none 0 0)) base g lv (.slice none 0 0) { d with tr := [] } := by
  refine ⟨hp_set h.blk 5 (.slice none 0 0), ?_, FRow.nil _ _, h.gb, h.gl, by simp [Value.ownBlock], by intro k e; simp [Value.ownBlock]⟩
  exact h.line.frame fun k hk => Below.heap_setCell w ⟨g, 5, none⟩ _ k (fun e => h.gl (by rw [hk, e]))
theorem PK.nilL (w : World) (g i : Nat) (v lv fv : Value) : PK w (w.setCell ⟨g, i, none⟩ v) g lv fv (.slice none 0 0) fv :=
  ⟨rfl, rfl, rfl, by simp, fun k _ hk _ _ => Below.heap_setCell w ⟨g, i, none⟩ v k hk, fun _ _ _ => by simp [Value.ownBlock], fun _ _ h => h⟩
theorem PK.nilF (w : World) (g i : Nat) (v lv fv : Value) : PK w (w.setCell ⟨g, i, none⟩ v) g lv fv lv (.slice none 0 0) :=
  ⟨rfl, rfl, rfl, by simp, fun k _ hk _ _ => Below.heap_setCell w ⟨g, i, none⟩ v k hk, fun _ _ h => h, fun _ _ _ => by simp [Value.ownBlock]⟩
set_option maxHeartbeats 2000000 in
theorem forget_any {w : World} {base g : Nat} {lv tv : Value} {d : Dz} (h : Dec w base g lv tv d) :
    Calls Tryd.prog 103 #[.pointer (some ⟨g, 0, none⟩)] w fun e w' => e = .returned (.tuple #[]) ∧ ∃ lv' tv', Dec w' base g lv' tv' (dForget d) ∧ PK w w' g lv tv lv' tv' := by
  have HP := hide h
  have HO := hide (over_any h)
  have c7 : w.cell? ⟨g, 7, none⟩ = some (.int .i64 (d.wrong : Int)) := h.cell 7
  obtain ⟨la, lc, rfl, _, _⟩ := h.line.shape
  obtain ⟨ta, tc, rfl, _, _⟩ := h.trs.shape
  clear h
  generalize hD : dForget d = D
  unfold dForget at hD
  cases ho : overB d with
  | false =>
    rw [ho] at HO hD
    have h0 : d.wrong = 0 := by
      unfold overB at ho
      rw [Bool.or_eq_false_iff] at ho
      simpa using ho.2
    have t0 : ((d.wrong : Int) != 0) = false := by rw [bne_eq_false_iff_eq]; omega
    rw [if_neg (by simp), if_pos h0] at hD
    have HD := hide hD
    clear hD ho h0
    go_enter Tryd.func103, Tryd.ntmps103
    go_wp2_with (refine HO.out.mono ?_; rintro e w' ⟨rfl, rfl⟩)
    go_end0
    exact ⟨rfl, _, _, by rw [← HD.out]; exact HP.out, PK.refl _ _ _ _⟩
  | true =>
    rw [ho] at HO hD
    rw [if_pos rfl] at hD
    have c3 := HP.out.cell 3
    have f3 := HP.out.froz 3
    by_cases h0 : d.wrong = 0
    · have t0 : ((d.wrong : Int) != 0) = false := by rw [bne_eq_false_iff_eq]; omega
      rw [if_pos h0] at hD
      have HD := hide hD
      clear hD ho h0
      go_enter Tryd.func103, Tryd.ntmps103
      go_wp2_with (refine HO.out.mono ?_; rintro e w' ⟨rfl, rfl⟩)
      go_end0
      exact ⟨rfl, _, _, by rw [← HD.out]; exact HP.out.nilL, PK.nilL _ _ _ _ _ _⟩
    · have t0 : ((d.wrong : Int) != 0) = true := bne_iff_ne.2 (by omega)
      rw [if_neg h0] at hD
      have HD := hide hD
      clear hD ho h0
      go_enter Tryd.func103, Tryd.ntmps103
      go_wp2_with fail
      refine HO.out.mono ?_
      rintro e w' ⟨rfl, rfl⟩
      go_upto_region 2 with fail
      have HP2 := hide HP.out.nilL
      have HK2 := hide (PK.nilL w g 3 (.slice none 0 0) (.slice la (bc d.line).length lc) (.slice ta d.tr.length tc))
      clear c3 f3 c7
      generalize w.setCell ⟨g, 3, none⟩ (.slice none 0 0) = w2 at HP2 HK2 ⊢
      have c7 : w2.cell? ⟨g, 7, none⟩ = some (.int .i64 (d.wrong : Int)) := HP2.out.cell 7
      have c5 := HP2.out.cell 5
      have f5 := HP2.out.froz 5
      go_wp2_with fail
      go_end0
      exact ⟨rfl, _, _, by rw [← HD.out]; exact HP2.out.nilF, HK2.out.trans (PK.nilF _ _ _ _ _ _)⟩
end Go.Proofs.YtggeihahbgeneaaDoor
