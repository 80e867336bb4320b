/- QF: CStill CBndP CLnP CBackP. -/
import Derived.Test.YthciahpadninpaaDoorQD
import Derived.Test.YthciahpadninpaaDoorQE
/- Feed, where nothing is read: a decoder that is over, or no bytes. -/
namespace Go.Proofs.YthciahpadninpaaDoor
open Go.ChangeShapes Go.WideShapes Go.ChangeAt Go.RowKit

set_option maxHeartbeats 8000000 in
set_option maxRecDepth 100000 in
theorem feed_still {w : World} {base g : Nat} {lv tv : Value} {d : Dz} (hD : Dec w base g lv tv d) (va : Option Addr) (n vc : Nat) (hn : n ≤ 140737488355328) (ho : overB d = true ∨ n = 0) :
    Calls Tryd.prog 13 #[.pointer (some ⟨g, 0, none⟩), .slice va n vc] w fun e w' => e = .returned (.tuple #[.slice none 0 0, .int .i64 0, .bool d.whole, .int .i64 (d.wrong : Int)]) ∧ ∃ lv' tv', Dec w' base g lv' tv' (dForget d) ∧ PK w w' g lv tv lv' tv' := by
  have HD := hide hD
  have HO := hide ho
  have c0 : w.cell? ⟨g, 0, none⟩ = some (stV d.fn g) := hD.cell 0
  unfold stV at c0
  have e5 := eq_nilFunc d.fn g
  have hgl : g < w.heap.size := hD.lt
  clear hD ho
  go_enter Tryd.func13, Tryd.ntmps13
  go_upto_region 4 with fail
  have B1 := hide ((Below.refl w.heap.size w).alloc (Nat.le_refl _) (.cells #[.slice va n vc, .slice none 0 0] 59))
  have HB1 := hide (hp_new w (.cells #[.slice va n vc, .slice none 0 0] 59))
  generalize w.alloc (.cells #[.slice va n vc, .slice none 0 0] 59) = w1 at B1 HB1 ⊢
  have HD1 := hide (HD.out.below B1.out)
  clear c0 e5
  go_loopw [20] (fun _ wr => wr = w1) (fun _ _ => 0)
  case atStart => rfl
  case round =>
    obtain rfl := hrel
    have p0 := cell_at HB1.out 0
    by_cases hr : n = 0
    · have t1 : ¬ (0 : Int) < (n : Int) := by omega
      have HFG := hide (forget_any HD1.out)
      go_wp2_with fail
      refine HFG.out.mono ?_
      rintro e w5 ⟨rfl, lv5, tv5, hd5, hk5⟩
      have HD5 := hide hd5
      have HK5 := hide ((PK.of_below g lv tv B1.out).trans hk5)
      have hb5 : w5.heap[w.heap.size]? = some (.cells #[.slice va n vc, .slice none 0 0] 59 (0, 0)) := (hk5.block w.heap.size (lt_heap HB1.out) (by omega) (fun e => by have := (HD.out.line.lt e).2; omega) (fun e => by have := (HD.out.trs.lt e).2; omega)).trans HB1.out
      clear hd5 hk5 HFG
      have p0 := cell_at hb5 0
      have p1 := cell_at hb5 1
      have c6 : w5.cell? ⟨g, 6, none⟩ = some (.bool d.whole) := HD5.out.cell 6
      have c7 : w5.cell? ⟨g, 7, none⟩ = some (.int .i64 (d.wrong : Int)) := HD5.out.cell 7
      clear hb5
      go_upto_region 7 with fail
      have hsub : (n : Int) - (n : Int) = 0 := Int.sub_self _
      have hwrap : IntKind.i64.wrap 0 = 0 := rfl
      refine wp_region_cl (by kernel_rfl) (by kernel_rfl) ?_
      refine cl_val (v := ?_) rfl (fun W hW => ?_) ?_
      rotate_left
      · unfold Oper.quietAt; go_simp; try with_reducible rfl
      simp only [Act.put, List.setIfInBounds_toArray, List.set_cons_zero, List.set_cons_succ]
      refine cl_val (v := ?_) rfl (fun W hW => ?_) ?_
      rotate_left
      · have l0 := hW.cell p1; unfold Oper.quietAt; go_simp; try with_reducible rfl
      simp only [Act.put, List.setIfInBounds_toArray, List.set_cons_zero, List.set_cons_succ]
      refine cl_move _ rfl rfl ?_
      simp only [Act.put, List.setIfInBounds_toArray, List.set_cons_zero, List.set_cons_succ]
      refine cl_val (v := ?_) rfl (fun W hW => ?_) ?_
      rotate_left
      · unfold Oper.quietAt; go_simp; try with_reducible rfl
      simp only [Act.put, List.setIfInBounds_toArray, List.set_cons_zero, List.set_cons_succ]
      refine cl_val (v := ?_) rfl (fun W hW => ?_) ?_
      rotate_left
      · unfold Oper.quietAt; go_simp; try with_reducible rfl
      simp only [Act.put, List.setIfInBounds_toArray, List.set_cons_zero, List.set_cons_succ]
      refine cl_val (v := ?_) rfl (fun W hW => ?_) ?_
      rotate_left
      · have l0 := hW.cell p0; unfold Oper.quietAt; go_simp; try with_reducible rfl
      simp only [Act.put, List.setIfInBounds_toArray, List.set_cons_zero, List.set_cons_succ]
      refine cl_val (v := ?_) rfl (fun W hW => ?_) ?_
      rotate_left
      · unfold Oper.quietAt; go_simp; try with_reducible rfl
      simp only [Act.put, List.setIfInBounds_toArray, List.set_cons_zero, List.set_cons_succ]
      refine cl_val (v := ?_) rfl (fun W hW => ?_) ?_
      rotate_left
      · unfold Oper.quietAt; go_simp; try with_reducible rfl
      simp only [Act.put, List.setIfInBounds_toArray, List.set_cons_zero, List.set_cons_succ]
      refine cl_move _ rfl rfl ?_
      simp only [Act.put, List.setIfInBounds_toArray, List.set_cons_zero, List.set_cons_succ]
      refine cl_val (v := ?_) rfl (fun W hW => ?_) ?_
      rotate_left
      · unfold Oper.quietAt; go_simp; try with_reducible rfl
      simp only [Act.put, List.setIfInBounds_toArray, List.set_cons_zero, List.set_cons_succ]
      refine cl_val (v := ?_) rfl (fun W hW => ?_) ?_
      rotate_left
      · unfold Oper.quietAt; go_simp; try with_reducible rfl
      simp only [Act.put, List.setIfInBounds_toArray, List.set_cons_zero, List.set_cons_succ]
      refine cl_val (v := ?_) rfl (fun W hW => ?_) ?_
      rotate_left
      · have l0 := hW.cell c6; unfold Oper.quietAt; go_simp; try with_reducible rfl
      simp only [Act.put, List.setIfInBounds_toArray, List.set_cons_zero, List.set_cons_succ]
      refine cl_move _ rfl rfl ?_
      simp only [Act.put, List.setIfInBounds_toArray, List.set_cons_zero, List.set_cons_succ]
      refine cl_val (v := ?_) rfl (fun W hW => ?_) ?_
      rotate_left
      · unfold Oper.quietAt; go_simp; try with_reducible rfl
      simp only [Act.put, List.setIfInBounds_toArray, List.set_cons_zero, List.set_cons_succ]
      refine cl_val (v := ?_) rfl (fun W hW => ?_) ?_
      rotate_left
      · unfold Oper.quietAt; go_simp; try with_reducible rfl
      simp only [Act.put, List.setIfInBounds_toArray, List.set_cons_zero, List.set_cons_succ]
      refine cl_val (v := ?_) rfl (fun W hW => ?_) ?_
      rotate_left
      · have l0 := hW.cell c7; unfold Oper.quietAt; go_simp; try with_reducible rfl
      simp only [Act.put, List.setIfInBounds_toArray, List.set_cons_zero, List.set_cons_succ]
      refine cl_assign _ rfl rfl ?_
      simp only [Act.put, List.setIfInBounds_toArray, List.set_cons_zero, List.set_cons_succ]
      refine cl_assign _ rfl rfl ?_
      simp only [Act.put, List.setIfInBounds_toArray, List.set_cons_zero, List.set_cons_succ]
      refine cl_assign _ rfl rfl ?_
      simp only [Act.put, List.setIfInBounds_toArray, List.set_cons_zero, List.set_cons_succ]
      refine cl_assign _ rfl rfl ?_
      simp only [Act.put, List.setIfInBounds_toArray, List.set_cons_zero, List.set_cons_succ]
      refine wpQuiet_nil ?_
      intro z Hz
      have HD9 := hide (HD5.out.below Hz.out)
      have HK9 := hide (HK5.out.trans (PK.of_below g lv5 tv5 Hz.out))
      clear p0 p1 c6 c7
      go_wp2
      exact bodyPost_ret (v := .tuple #[.slice none 0 0, .int .i64 0, .bool d.whole, .int .i64 (d.wrong : Int)]) (by simp [results, Tryd.results13, go_sem]) rfl ⟨rfl, _, _, HD9.out, HK9.out⟩
    · have t1 : (0 : Int) < (n : Int) := by omega
      have HOV := hide (over_any HD1.out)
      rw [HO.out.resolve_right hr] at HOV
      go_wp2_with fail
      refine HOV.out.mono ?_
      rintro e w' ⟨rfl, rfl⟩
      have HFG := hide (forget_any HD1.out)
      go_wp2_with fail
      refine HFG.out.mono ?_
      rintro e w5 ⟨rfl, lv5, tv5, hd5, hk5⟩
      have HD5 := hide hd5
      have HK5 := hide ((PK.of_below g lv tv B1.out).trans hk5)
      have hb5 : w5.heap[w.heap.size]? = some (.cells #[.slice va n vc, .slice none 0 0] 59 (0, 0)) := (hk5.block w.heap.size (lt_heap HB1.out) (by omega) (fun e => by have := (HD.out.line.lt e).2; omega) (fun e => by have := (HD.out.trs.lt e).2; omega)).trans HB1.out
      clear hd5 hk5 HFG
      have p0 := cell_at hb5 0
      have p1 := cell_at hb5 1
      have c6 : w5.cell? ⟨g, 6, none⟩ = some (.bool d.whole) := HD5.out.cell 6
      have c7 : w5.cell? ⟨g, 7, none⟩ = some (.int .i64 (d.wrong : Int)) := HD5.out.cell 7
      clear hb5
      go_upto_region 7 with fail
      have hsub : (n : Int) - (n : Int) = 0 := Int.sub_self _
      have hwrap : IntKind.i64.wrap 0 = 0 := rfl
      refine wp_region_cl (by kernel_rfl) (by kernel_rfl) ?_
      refine cl_val (v := ?_) rfl (fun W hW => ?_) ?_
      rotate_left
      · unfold Oper.quietAt; go_simp; try with_reducible rfl
      simp only [Act.put, List.setIfInBounds_toArray, List.set_cons_zero, List.set_cons_succ]
      refine cl_val (v := ?_) rfl (fun W hW => ?_) ?_
      rotate_left
      · have l0 := hW.cell p1; unfold Oper.quietAt; go_simp; try with_reducible rfl
      simp only [Act.put, List.setIfInBounds_toArray, List.set_cons_zero, List.set_cons_succ]
      refine cl_move _ rfl rfl ?_
      simp only [Act.put, List.setIfInBounds_toArray, List.set_cons_zero, List.set_cons_succ]
      refine cl_val (v := ?_) rfl (fun W hW => ?_) ?_
      rotate_left
      · unfold Oper.quietAt; go_simp; try with_reducible rfl
      simp only [Act.put, List.setIfInBounds_toArray, List.set_cons_zero, List.set_cons_succ]
      refine cl_val (v := ?_) rfl (fun W hW => ?_) ?_
      rotate_left
      · unfold Oper.quietAt; go_simp; try with_reducible rfl
      simp only [Act.put, List.setIfInBounds_toArray, List.set_cons_zero, List.set_cons_succ]
      refine cl_val (v := ?_) rfl (fun W hW => ?_) ?_
      rotate_left
      · have l0 := hW.cell p0; unfold Oper.quietAt; go_simp; try with_reducible rfl
      simp only [Act.put, List.setIfInBounds_toArray, List.set_cons_zero, List.set_cons_succ]
      refine cl_val (v := ?_) rfl (fun W hW => ?_) ?_
      rotate_left
      · unfold Oper.quietAt; go_simp; try with_reducible rfl
      simp only [Act.put, List.setIfInBounds_toArray, List.set_cons_zero, List.set_cons_succ]
      refine cl_val (v := ?_) rfl (fun W hW => ?_) ?_
      rotate_left
      · unfold Oper.quietAt; go_simp; try with_reducible rfl
      simp only [Act.put, List.setIfInBounds_toArray, List.set_cons_zero, List.set_cons_succ]
      refine cl_move _ rfl rfl ?_
      simp only [Act.put, List.setIfInBounds_toArray, List.set_cons_zero, List.set_cons_succ]
      refine cl_val (v := ?_) rfl (fun W hW => ?_) ?_
      rotate_left
      · unfold Oper.quietAt; go_simp; try with_reducible rfl
      simp only [Act.put, List.setIfInBounds_toArray, List.set_cons_zero, List.set_cons_succ]
      refine cl_val (v := ?_) rfl (fun W hW => ?_) ?_
      rotate_left
      · unfold Oper.quietAt; go_simp; try with_reducible rfl
      simp only [Act.put, List.setIfInBounds_toArray, List.set_cons_zero, List.set_cons_succ]
      refine cl_val (v := ?_) rfl (fun W hW => ?_) ?_
      rotate_left
      · have l0 := hW.cell c6; unfold Oper.quietAt; go_simp; try with_reducible rfl
      simp only [Act.put, List.setIfInBounds_toArray, List.set_cons_zero, List.set_cons_succ]
      refine cl_move _ rfl rfl ?_
      simp only [Act.put, List.setIfInBounds_toArray, List.set_cons_zero, List.set_cons_succ]
      refine cl_val (v := ?_) rfl (fun W hW => ?_) ?_
      rotate_left
      · unfold Oper.quietAt; go_simp; try with_reducible rfl
      simp only [Act.put, List.setIfInBounds_toArray, List.set_cons_zero, List.set_cons_succ]
      refine cl_val (v := ?_) rfl (fun W hW => ?_) ?_
      rotate_left
      · unfold Oper.quietAt; go_simp; try with_reducible rfl
      simp only [Act.put, List.setIfInBounds_toArray, List.set_cons_zero, List.set_cons_succ]
      refine cl_val (v := ?_) rfl (fun W hW => ?_) ?_
      rotate_left
      · have l0 := hW.cell c7; unfold Oper.quietAt; go_simp; try with_reducible rfl
      simp only [Act.put, List.setIfInBounds_toArray, List.set_cons_zero, List.set_cons_succ]
      refine cl_assign _ rfl rfl ?_
      simp only [Act.put, List.setIfInBounds_toArray, List.set_cons_zero, List.set_cons_succ]
      refine cl_assign _ rfl rfl ?_
      simp only [Act.put, List.setIfInBounds_toArray, List.set_cons_zero, List.set_cons_succ]
      refine cl_assign _ rfl rfl ?_
      simp only [Act.put, List.setIfInBounds_toArray, List.set_cons_zero, List.set_cons_succ]
      refine cl_assign _ rfl rfl ?_
      simp only [Act.put, List.setIfInBounds_toArray, List.set_cons_zero, List.set_cons_succ]
      refine wpQuiet_nil ?_
      intro z Hz
      have HD9 := hide (HD5.out.below Hz.out)
      have HK9 := hide (HK5.out.trans (PK.of_below g lv5 tv5 Hz.out))
      clear p0 p1 c6 c7
      go_wp2
      exact bodyPost_ret (v := .tuple #[.slice none 0 0, .int .i64 0, .bool d.whole, .int .i64 (d.wrong : Int)]) (by simp [results, Tryd.results13, go_sem]) rfl ⟨rfl, _, _, HD9.out, HK9.out⟩
end Go.Proofs.YthciahpadninpaaDoor
/- How many bytes a decoder tells: never more than it has room for. -/
namespace Go.Proofs.YthciahpadninpaaDoor
open Go.ChangeShapes Go.WideShapes Go.ChangeAt Go.RowKit

theorem end_room (d : Dz) (s : ByteArray) : (dEnd d s).2.left + (dEnd d s).2.room ≤ d.left + d.room := by
  unfold dEnd dSized dRead dTrl
  repeat' split
  all_goals first | exact Nat.le_refl _ | (dsimp only; omega)
theorem next_room (d : Dz) (c : UInt8) : (dNext d c).2.1.length + ((dNext d c).2.2.left + (dNext d c).2.2.room) ≤ d.left + d.room := by
  unfold dNext
  split
  · simp only [List.length_singleton]; omega
  · split
    · simp
    · split
      · have := end_room { d with line := [], ending := false } (sS d.line)
        simpa using this
      · repeat' split
        all_goals simp
theorem bytes_room : ∀ (l : List UInt8) (d : Dz), (dBytes d l).2.2.1.length + ((dBytes d l).2.2.2.left + (dBytes d l).2.2.2.room) ≤ d.left + d.room
  | [], d => by simp [dBytes]
  | c :: r, d => by
    have h1 := next_room d c
    rw [dBytes]
    split
    · exact h1
    · split
      · exact h1
      · have := bytes_room r (dNext d c).2.2
        simp only [List.length_append]
        omega
theorem bytes_full : ∀ (l : List UInt8) (d : Dz), (dBytes d l).2.1 = l.length ∨ (dBytes d l).1 ≠ 0 ∨ (dBytes d l).2.2.2.whole = true
  | [], _ => .inl rfl
  | c :: r, d => by
    rw [dBytes]
    split
    · exact .inr (.inl ‹_›)
    · split
      · exact .inr (.inr ‹_›)
      · rcases bytes_full r (dNext d c).2.2 with h | h
        · exact .inl (by simp [h])
        · exact .inr h
end Go.Proofs.YthciahpadninpaaDoor
/- Lines, and a body from its front: pure. -/
namespace Go.Proofs.YthciahpadninpaaDoor
open Go.ChangeShapes Go.WideShapes Go.ChangeAt Go.RowKit

/-- What stands in a line from its front: none: it goes on; how many bytes were read, and the line, or none: something is wrong. -/
def lineR : List UInt8 → Bool → List UInt8 → Option (Nat × Option (List UInt8))
  | _, _, [] => none
  | acc, en, c :: r =>
    if en ≠ decide (c = 10) then some (1, none)
    else if en = true then some (1, some acc)
    else if c = 13 then (lineR acc true r).map fun p => (p.1 + 1, p.2)
    else if acc.length = 8192 then some (1, none)
    else (lineR (acc ++ [c]) false r).map fun p => (p.1 + 1, p.2)
theorem most_ln {d : Dz} (h : d.fn ≠ fnBody) : dMost d = 8192 := by unfold dMost; rw [if_neg h]
theorem Dn.cons {d d1 d2 : Dz} {c : UInt8} {r : List UInt8} {k e : Nat} {o o1 : List UInt8} (h0 : dNext d c = (0, o1, d1)) (hw : d1.whole = false) (h : Dn d1 r k o e d2) : Dn d (c :: r) (k + 1) (o1 ++ o) e d2 := by
  obtain ⟨h1, h2⟩ := h
  refine ⟨by simpa using h1, ?_⟩
  have hb : dBytes d (c :: r) = sh (dBytes d1 r) 1 o1 := by
    rw [dBytes, h0]
    simp [hw, sh]
  rw [hb, List.drop_succ_cons]
  split at h2
  · rename_i hx
    rw [if_pos hx, h2]
    simp [sh]
  · rename_i hx
    rw [if_neg hx, h2, sh_sh]
/-- A line, read by a decoder that reads lines. -/
theorem line_dn : ∀ (l acc : List UInt8) (en : Bool) (d : Dz), d.fn ≠ fnBody → d.whole = false → d.line = acc → d.ending = en →
    match lineR acc en l with
    | none => ∃ d', d'.whole = false ∧ Dn d l l.length [] 0 d'
    | some (k, none) => ∃ d', d'.whole = false ∧ Dn d l k [] 100 d'
    | some (k, some s) => Dn d l k [] (dEnd { d with line := [], ending := false } (sS s)).1 (dEnd { d with line := [], ending := false } (sS s)).2
  | [], acc, en, d, _, hw, _, _ => by
    rw [lineR]
    exact ⟨d, hw, Dn.refl d [] hw⟩
  | c :: r, acc, en, d, hf, hw, hl, he => by
    subst hl he
    have hn : ¬ (d.fn = fnBody ∧ 0 < d.left) := fun h => hf h.1
    have one : ∀ e o d1, dNext d c = (e, o, d1) → Dn d (c :: r) 1 o e d1 := by
      intro e o d1 h
      have := (Dn.refl d (c :: r) hw).step hw rfl
      rw [h] at this
      simpa using this.1
    rw [lineR]
    by_cases h1 : d.ending ≠ decide (c = 10)
    · rw [if_pos h1]
      refine ⟨d, hw, one _ _ _ ?_⟩
      unfold dNext
      rw [if_neg hn, if_pos h1]
    · rw [if_neg h1]
      by_cases h2 : d.ending = true
      · rw [if_pos h2]
        refine one _ _ _ ?_
        unfold dNext
        rw [if_neg hn, if_neg h1, if_pos h2]
      · rw [if_neg h2]
        have h2' : d.ending = false := by simpa using h2
        by_cases h3 : c = 13
        · rw [if_pos h3]
          have e1 : dNext d c = (0, [], { d with ending := true }) := by
            unfold dNext
            rw [if_neg hn, if_neg h1, if_neg h2, if_pos h3]
          have ih := line_dn r d.line true { d with ending := true } hf hw rfl rfl
          cases hR : lineR d.line true r with
          | none =>
            rw [hR] at ih
            obtain ⟨d', h4, h5⟩ := ih
            exact ⟨d', h4, Dn.cons e1 hw h5⟩
          | some p =>
            obtain ⟨k, s⟩ := p
            rw [hR] at ih
            cases s with
            | none =>
              obtain ⟨d', h4, h5⟩ := ih
              exact ⟨d', h4, Dn.cons e1 hw h5⟩
            | some s => exact Dn.cons e1 hw ih
        · rw [if_neg h3]
          by_cases h4 : d.line.length = 8192
          · rw [if_pos h4]
            refine ⟨d, hw, one _ _ _ ?_⟩
            unfold dNext
            rw [if_neg hn, if_neg h1, if_neg h2, if_neg h3, if_pos (by rw [most_ln hf]; exact h4)]
          · rw [if_neg h4]
            have e1 : dNext d c = (0, [], { d with line := d.line ++ [c] }) := by
              unfold dNext
              rw [if_neg hn, if_neg h1, if_neg h2, if_neg h3, if_neg (by rw [most_ln hf]; exact h4)]
            have ih := line_dn r (d.line ++ [c]) false { d with line := d.line ++ [c] } hf hw rfl h2'
            have e2 : (Dz.mk d.fn d.room d.left [] false d.tr d.whole d.wrong) = { d with line := [], ending := false } := rfl
            cases hR : lineR (d.line ++ [c]) false r with
            | none =>
              rw [hR] at ih
              obtain ⟨d', h5, h6⟩ := ih
              exact ⟨d', h5, Dn.cons e1 hw h6⟩
            | some p =>
              obtain ⟨k, s⟩ := p
              rw [hR] at ih
              cases s with
              | none =>
                obtain ⟨d', h5, h6⟩ := ih
                exact ⟨d', h5, Dn.cons e1 hw h6⟩
              | some s => exact Dn.cons e1 hw ih
/-- How far a line is read, from a place on. -/
structure LnAt (b : List UInt8) (at' i : Nat) (acc : List UInt8) (en : Bool) : Prop where
  le : at' ≤ i
  ib : i ≤ b.length
  eq : lineR [] false (b.drop at') = (lineR acc en (b.drop i)).map fun p => (p.1 + (i - at'), p.2)
  ac : acc = (b.drop at').take (i - at' - (if en then 1 else 0))
  ee : en = true → at' < i ∧ b[i - 1]? = some 13
  ne : en = false → at' < i → b[i - 1]? ≠ some 13
  len : acc.length ≤ 8192
theorem LnAt.zero {b : List UInt8} {at' : Nat} (h : at' ≤ b.length) : LnAt b at' at' [] false :=
  ⟨Nat.le_refl _, h, by simp, by simp, by simp, by intro _ h; omega, by simp⟩
theorem acc_len {b acc : List UInt8} {at' i : Nat} {en : Bool} (h : LnAt b at' i acc en) (he : en = false) : acc.length = i - at' := by
  rw [h.ac, he]
  have := h.ib
  have := h.le
  simp
  omega
theorem map_map1 {x : Option (Nat × Option (List UInt8))} {k : Nat} : (x.map fun p => (p.1 + 1, p.2)).map (fun p => (p.1 + k, p.2)) = x.map fun p => (p.1 + (k + 1), p.2) := by
  cases x with
  | none => rfl
  | some p => simp; omega
/-- One byte on: the line's end, or not; or something wrong. -/
theorem LnAt.step {b acc : List UInt8} {at' i : Nat} {en : Bool} (h : LnAt b at' i acc en) (hi : i < b.length) :
    (en ≠ decide (b[i] = 10) → lineR [] false (b.drop at') = some (i + 1 - at', none)) ∧
    (en = true → b[i] = 10 → lineR [] false (b.drop at') = some (i + 1 - at', some ((b.drop at').take (i - 1 - at')))) ∧
    (en = false → b[i] ≠ 10 → b[i] = 13 → LnAt b at' (i + 1) acc true) ∧
    (en = false → b[i] ≠ 10 → b[i] ≠ 13 → 8192 ≤ i - at' → lineR [] false (b.drop at') = some (i + 1 - at', none)) ∧
    (en = false → b[i] ≠ 10 → b[i] ≠ 13 → ¬ 8192 ≤ i - at' → LnAt b at' (i + 1) (acc ++ [b[i]]) false) := by
  have hd : b.drop i = b[i] :: b.drop (i + 1) := List.drop_eq_getElem_cons hi
  have hE := h.eq
  rw [hd, lineR] at hE
  have hle := h.le
  refine ⟨fun h1 => ?_, fun h1 h2 => ?_, fun h1 h2 h3 => ?_, fun h1 h2 h3 h4 => ?_, fun h1 h2 h3 h4 => ?_⟩
  · rw [if_pos h1] at hE
    rw [hE]
    simp
    omega
  · rw [if_neg (by simp [h1, h2]), if_pos h1] at hE
    rw [hE, h.ac, h1]
    have := (h.ee h1).1
    simp
    refine ⟨by omega, ?_⟩
    congr 1
    omega
  · rw [if_neg (by simp [h1, h2]), if_neg (by simp [h1]), if_pos h3, map_map1] at hE
    refine ⟨by omega, hi, by rw [hE]; congr; funext p; congr 1; omega, ?_, ?_, by simp, h.len⟩
    · rw [h.ac, h1]
      congr 1
      simp
      omega
    · intro _
      refine ⟨by omega, ?_⟩
      rw [Nat.add_sub_cancel, List.getElem?_eq_getElem hi, h3]
  · have hl := acc_len h h1
    have := h.len
    rw [if_neg (by simp [h1, h2]), if_neg (by simp [h1]), if_neg h3, if_pos (by omega)] at hE
    rw [hE]
    simp
    omega
  · have hl := acc_len h h1
    rw [if_neg (by simp [h1, h2]), if_neg (by simp [h1]), if_neg h3, if_neg (by omega), map_map1] at hE
    refine ⟨by omega, hi, by rw [hE]; congr; funext p; congr 1; omega, ?_, by simp, ?_, ?_⟩
    · rw [h.ac, h1]
      simp only [Bool.false_eq_true, if_false, Nat.sub_zero]
      rw [show i + 1 - at' = i - at' + 1 by omega, List.take_add_one, List.getElem?_drop, show at' + (i - at') = i by omega, List.getElem?_eq_getElem hi]
      rfl
    · intro _ _
      rw [Nat.add_sub_cancel, List.getElem?_eq_getElem hi]
      simp [h3]
    · rw [List.length_append, List.length_singleton, hl]
      omega
theorem LnAt.stop {b acc : List UInt8} {at' : Nat} {en : Bool} (h : LnAt b at' b.length acc en) : lineR [] false (b.drop at') = none := by
  rw [h.eq, List.drop_length, lineR]
  rfl
/-! ### A body, from its front -/
/-- How a decoder stands behind n bytes that told o. -/
def At (most : Nat) (b : List UInt8) (n : Nat) (o : List UInt8) (d : Dz) : Prop := Dn (dNew most) b n o 0 d ∧ d.whole = false
/-- What is read of a body. -/
def Fin' (most : Nat) (b o : List UInt8) (t : List (ByteArray × ByteArray)) (n : Nat) (wh : Bool) (e : Nat) : Prop := ∃ d', dBytes (dNew most) b = (e, n, o, d') ∧ d'.whole = wh ∧ t = if wh then d'.tr else []
def stS (room : Nat) : Dz := ⟨fnSize, room, 0, [], false, [], false, 0⟩
def stB (room left : Nat) (en : Bool) : Dz := ⟨fnBody, room, left, [], en, [], false, 0⟩
def stT (room : Nat) (l : List (ByteArray × ByteArray)) : Dz := ⟨fnTrl, room, 0, [], false, l, false, 0⟩
theorem At.le {most n : Nat} {b o : List UInt8} {d : Dz} (h : At most b n o d) : n ≤ b.length := h.1.1
theorem At.new (most : Nat) (b : List UInt8) : At most b 0 [] (stS most) := ⟨Dn.refl _ _ rfl, rfl⟩
theorem At.fin {most n : Nat} {b o : List UInt8} {d : Dz} (h : At most b n o d) (hn : n = b.length) : Fin' most b o [] n false 0 := by
  refine ⟨d, h.1.done (.inr ?_), h.2, rfl⟩
  rw [hn, List.drop_length]
theorem Fin'.dn {most n e : Nat} {b o : List UInt8} {d : Dz} (h : Dn (dNew most) b n o e d) (he : e ≠ 0) (hw : d.whole = false) : Fin' most b o [] n false e :=
  ⟨d, h.done (.inl (.inl he)), hw, rfl⟩
theorem dn_len {d d1 : Dz} {l : List UInt8} {k e : Nat} {o : List UInt8} (h : Dn d l k o e d1) : o.length ≤ l.length := dn_out h
/-- A line that is not whole. -/
theorem At.part {most n : Nat} {b o : List UInt8} {d : Dz} (h : At most b n o d) (hf : d.fn ≠ fnBody) (hl : d.line = []) (he : d.ending = false) (hR : lineR [] false (b.drop n) = none) : Fin' most b o [] b.length false 0 := by
  have := line_dn (b.drop n) [] false d hf h.2 hl he
  rw [hR] at this
  obtain ⟨d', hw, hd⟩ := this
  have ht := h.1.trans h.2 hd
  rw [List.append_nil] at ht
  have hn := h.le
  have hx : n + (b.drop n).length = b.length := by rw [List.length_drop]; omega
  rw [hx] at ht
  exact At.fin ⟨ht, hw⟩ rfl
/-- A line that is wrong. -/
theorem At.bad {most n k : Nat} {b o : List UInt8} {d : Dz} (h : At most b n o d) (hf : d.fn ≠ fnBody) (hl : d.line = []) (he : d.ending = false) (hR : lineR [] false (b.drop n) = some (k, none)) : Fin' most b o [] (n + k) false 100 := by
  have := line_dn (b.drop n) [] false d hf h.2 hl he
  rw [hR] at this
  obtain ⟨d', hw, hd⟩ := this
  have ht := h.1.trans h.2 hd
  rw [List.append_nil] at ht
  exact Fin'.dn ht (by decide) hw
theorem At.line {most n k : Nat} {b o s : List UInt8} {d : Dz} (h : At most b n o d) (hf : d.fn ≠ fnBody) (hl : d.line = []) (he : d.ending = false) (hR : lineR [] false (b.drop n) = some (k, some s)) : Dn (dNew most) b (n + k) o (dEnd d (sS s)).1 (dEnd d (sS s)).2 := by
  have := line_dn (b.drop n) [] false d hf h.2 hl he
  rw [hR] at this
  have e : ({ d with line := [], ending := false } : Dz) = d := by cases d; simp_all
  rw [e] at this
  have ht := h.1.trans h.2 this
  rw [List.append_nil] at ht
  exact ht
/-- What a size line says; none: it is none. -/
def sizeV (s : ByteArray) : Option Nat := if numE 16 (k1 59 s).data.toList ≠ 0 ∨ (k2 59 s).data.toList.all valc = false then none else some (numV 16 (k1 59 s).data.toList)
theorem At.sized {most n k room : Nat} {b o s : List UInt8} (h : At most b n o (stS room)) (hR : lineR [] false (b.drop n) = some (k, some s)) :
    (sizeV (sS s) = none → Fin' most b o [] (n + k) false 100) ∧ (∀ v, sizeV (sS s) = some v → room < v → Fin' most b o [] (n + k) false 2) ∧
    (sizeV (sS s) = some 0 → At most b (n + k) o (stT room [])) ∧ (∀ v, sizeV (sS s) = some v → v ≤ room → v ≠ 0 → At most b (n + k) o (stB (room - v) v false)) := by
  have ht := h.line fn_ne.1 rfl rfl hR
  have e : dEnd (stS room) (sS s) = dSized (stS room) (sS s) := by unfold dEnd; exact if_pos rfl
  rw [e] at ht
  unfold dSized at ht
  unfold sizeV
  refine ⟨fun h1 => ?_, fun v h1 h2 => ?_, fun h1 => ?_, fun v h1 h2 h3 => ?_⟩
  · split at h1
    · rename_i hc
      rw [if_pos hc] at ht
      exact Fin'.dn ht (by decide) rfl
    · cases h1
  · split at h1
    · cases h1
    · rename_i hc
      simp only [Option.some.injEq] at h1
      rw [if_neg hc, h1, if_pos (show (stS room).room < v from h2)] at ht
      exact Fin'.dn ht (by decide) rfl
  · split at h1
    · cases h1
    · rename_i hc
      simp only [Option.some.injEq] at h1
      rw [if_neg hc, h1, if_neg (by omega), if_pos rfl] at ht
      exact ⟨ht, rfl⟩
  · split at h1
    · cases h1
    · rename_i hc
      simp only [Option.some.injEq] at h1
      rw [if_neg hc, h1, if_neg (by show ¬ room < v; omega), if_neg h3] at ht
      exact ⟨ht, rfl⟩
theorem At.cons {most n : Nat} {b o : List UInt8} {d : Dz} (h : At most b n o d) (hn : n < b.length) : Dn (dNew most) b (n + 1) (o ++ (dNext d b[n]).2.1) (dNext d b[n]).1 (dNext d b[n]).2.2 :=
  (h.1.step h.2 (List.drop_eq_getElem_cons hn)).1
theorem At.byte {most n room left : Nat} {b o : List UInt8} (h : At most b n o (stB room (left + 1) false)) (hn : n < b.length) : At most b (n + 1) (o ++ [b[n]]) (stB room left false) := by
  have ht := h.cons hn
  have e : dNext (stB room (left + 1) false) b[n] = (0, [b[n]], stB room left false) := by
    unfold dNext
    rw [if_pos ⟨rfl, Nat.succ_pos _⟩]
    rfl
  rw [e] at ht
  exact ⟨ht, rfl⟩
theorem At.cr {most n room : Nat} {b o : List UInt8} (h : At most b n o (stB room 0 false)) (hn : n < b.length) :
    (b[n] = 13 → At most b (n + 1) o (stB room 0 true)) ∧ (b[n] ≠ 13 → Fin' most b o [] (n + 1) false 100) := by
  have ht := h.cons hn
  refine ⟨fun h1 => ?_, fun h1 => ?_⟩
  · have e : dNext (stB room 0 false) b[n] = (0, [], stB room 0 true) := by
      unfold dNext
      rw [if_neg (by simp [stB]), if_neg (by rw [h1]; simp [stB]), if_neg (by simp [stB]), if_pos h1]
      rfl
    rw [e, List.append_nil] at ht
    exact ⟨ht, rfl⟩
  · have e : dNext (stB room 0 false) b[n] = (100, [], stB room 0 false) := by
      unfold dNext
      rw [if_neg (by simp [stB])]
      by_cases h2 : b[n] = 10
      · rw [if_pos (by rw [h2]; simp [stB])]
      · rw [if_neg (by rw [decide_eq_false h2]; simp [stB]), if_neg (by simp [stB]), if_neg h1, if_pos (by unfold dMost; exact (if_pos (show (stB room 0 false).fn = fnBody from rfl)).symm)]
    rw [e, List.append_nil] at ht
    exact Fin'.dn ht (by decide) rfl
theorem At.lf {most n room : Nat} {b o : List UInt8} (h : At most b n o (stB room 0 true)) (hn : n < b.length) :
    (b[n] = 10 → At most b (n + 1) o (stS room)) ∧ (b[n] ≠ 10 → Fin' most b o [] (n + 1) false 100) := by
  have ht := h.cons hn
  refine ⟨fun h1 => ?_, fun h1 => ?_⟩
  · have e : dNext (stB room 0 true) b[n] = (0, [], stS room) := by
      unfold dNext
      rw [if_neg (by simp [stB]), if_neg (by rw [h1]; simp [stB]), if_pos (show (stB room 0 true).ending = true from rfl)]
      unfold dEnd
      rw [if_neg (fun e => fn_ne.1 e.symm)]
      rfl
    rw [e, List.append_nil] at ht
    exact ⟨ht, rfl⟩
  · have e : dNext (stB room 0 true) b[n] = (100, [], stB room 0 true) := by
      unfold dNext
      rw [if_neg (by simp [stB]), if_pos (by rw [decide_eq_false h1]; simp [stB])]
    rw [e, List.append_nil] at ht
    exact Fin'.dn ht (by decide) rfl
theorem At.trl {most n k room : Nat} {b o s : List UInt8} {l : List (ByteArray × ByteArray)} (h : At most b n o (stT room l)) (hR : lineR [] false (b.drop n) = some (k, some s)) :
    ((sS s).size = 0 → Fin' most b o l (n + k) true 0) ∧
    ((sS s).size ≠ 0 → (k3 58 (sS s) = false ∨ chkF (fldF (sS s)) ≠ 0 ∨ l.length = 100) → Fin' most b o [] (n + k) false 100) ∧
    ((sS s).size ≠ 0 → ¬ (k3 58 (sS s) = false ∨ chkF (fldF (sS s)) ≠ 0 ∨ l.length = 100) → At most b (n + k) o (stT room (l ++ [fldF (sS s)]))) := by
  have ht := h.line (fun e => fn_ne.2.2 e.symm) rfl rfl hR
  have e : dEnd (stT room l) (sS s) = dTrl (stT room l) (sS s) := by unfold dEnd; rw [if_neg (fun e => fn_ne.2.1 e.symm), if_neg (fun e => fn_ne.2.2 e.symm)]
  rw [e] at ht
  unfold dTrl at ht
  refine ⟨fun h1 => ?_, fun h1 h2 => ?_, fun h1 h2 => ?_⟩
  · rw [if_pos h1] at ht
    exact ⟨_, ht.done (.inl (.inr rfl)), rfl, rfl⟩
  · rw [if_neg h1, if_pos (by rcases h2 with h2 | h2 | h2; exact .inl h2; exact .inr (.inr h2); exact .inr (.inl h2))] at ht
    exact Fin'.dn ht (by decide) rfl
  · rw [if_neg h1, if_neg (fun h3 => h2 (by rcases h3 with h3 | h3 | h3; exact .inl h3; exact .inr (.inr h3); exact .inr (.inl h3)))] at ht
    exact ⟨ht, rfl⟩
end Go.Proofs.YthciahpadninpaaDoor
/- Bytes behind bytes; chunks, read back: pure. -/
namespace Go.Proofs.YthciahpadninpaaDoor
open Go.ChangeShapes Go.WideShapes Go.ChangeAt Go.RowKit

/-! ### Bytes behind bytes -/
theorem bytes_append : ∀ (a b : List UInt8) (d : Dz), dBytes d (a ++ b) = if (dBytes d a).1 ≠ 0 ∨ (a ≠ [] ∧ (dBytes d a).2.2.2.whole = true) then dBytes d a else sh (dBytes (dBytes d a).2.2.2 b) (dBytes d a).2.1 (dBytes d a).2.2.1
  | [], b, d => by
    rw [if_neg (by simp [dBytes])]
    simp [dBytes, sh]
  | c :: r, b, d => by
    rw [List.cons_append, dBytes, dBytes]
    by_cases h1 : (dNext d c).1 ≠ 0
    · rw [if_pos h1, if_pos h1, if_pos (.inl h1)]
    · rw [if_neg h1, if_neg h1]
      by_cases h2 : (dNext d c).2.2.whole = true
      · rw [if_pos h2, if_pos h2, if_pos (.inr ⟨by simp, h2⟩)]
      · rw [if_neg h2, if_neg h2, bytes_append r b]
        by_cases h3 : r = []
        · subst h3
          simp [dBytes, h2, sh]
        · split
          · rename_i h4
            rw [if_pos (by rcases h4 with h4 | h4; exact .inl h4; exact .inr ⟨by simp, h4.2⟩)]
          · rename_i h4
            rw [if_neg (by
              intro h5
              rcases h5 with h5 | h5
              · exact h4 (.inl h5)
              · exact h4 (.inr ⟨h3, h5.2⟩))]
            simp [sh, Nat.add_assoc, Nat.add_comm]
theorem whole_end (d : Dz) (s : ByteArray) (h : d.whole = false) : (dEnd d s).1 ≠ 0 → (dEnd d s).2.whole = false := by
  unfold dEnd dSized dRead dTrl
  repeat' split
  all_goals simp [h]
theorem whole_next (d : Dz) (c : UInt8) (h : d.whole = false) : (dNext d c).1 ≠ 0 → (dNext d c).2.2.whole = false := by
  unfold dNext
  split
  · simp [h]
  · split
    · simp [h]
    · split
      · exact whole_end { d with line := [], ending := false } (sS d.line) h
      · repeat' split
        all_goals simp [h]
theorem whole_bytes : ∀ (l : List UInt8) (d : Dz), d.whole = false → (dBytes d l).1 ≠ 0 → (dBytes d l).2.2.2.whole = false
  | [], d, h => by simp [dBytes]
  | c :: r, d, h => by
    rw [dBytes]
    split
    · exact fun h1 => whole_next d c h h1
    · split
      · simp
      · rename_i h2
        exact whole_bytes r _ (by simpa using h2)
/-- Bytes that are read beyond a place are read as far as it, and on from it. -/
theorem bytes_cut {a b o : List UInt8} {d d' : Dz} {e k : Nat} (hw : d.whole = false) (h : dBytes d (a ++ b) = (e, k, o, d')) (hk : a.length < k) :
    ∃ oa da ob, dBytes d a = (0, a.length, oa, da) ∧ da.whole = false ∧ dBytes da b = (e, k - a.length, ob, d') ∧ o = oa ++ ob := by
  have hl := bytes_len a d
  rw [bytes_append] at h
  split at h
  · rename_i h1
    rw [h] at hl
    dsimp only at hl
    omega
  · rename_i h1
    rw [not_or] at h1
    have h2 : (dBytes d a).1 = 0 := by simpa using h1.1
    have h3 : (dBytes d a).2.2.2.whole = false := by
      by_cases ha : a = []
      · subst ha; exact hw
      · have := h1.2
        rw [not_and] at this
        simpa using this ha
    have h4 : (dBytes d a).2.1 = a.length := by
      rcases bytes_full a d with h5 | h5 | h5
      · exact h5
      · exact absurd h2 h5
      · rw [h3] at h5; cases h5
    generalize dBytes d a = R at h h2 h3 h4
    obtain ⟨e0, n0, oa, da⟩ := R
    dsimp only at h h2 h3 h4
    subst h2 h4
    unfold sh at h
    simp only [Prod.mk.injEq] at h
    obtain ⟨q1, q2, q3, q4⟩ := h
    refine ⟨oa, da, (dBytes da b).2.2.1, rfl, h3, ?_, q3.symm⟩
    rw [← q1, ← q2, ← q4]
    simp
/-! ### Chunks, read back -/
def noEnd (l : List UInt8) : Bool := l.all fun c => decide (c ≠ 10) && decide (c ≠ 13)
theorem lineR_plain : ∀ (s acc r : List UInt8), noEnd s = true → acc.length + s.length ≤ 8192 → lineR acc false (s ++ 13 :: 10 :: r) = some (s.length + 2, some (acc ++ s))
  | [], acc, r, _, _ => by simp [lineR]
  | c :: s, acc, r, h, hl => by
    unfold noEnd at h
    rw [List.all_cons, Bool.and_eq_true] at h
    obtain ⟨h1, h2⟩ := h
    simp only [Bool.and_eq_true, decide_eq_true_eq] at h1
    rw [List.length_cons] at hl
    rw [List.cons_append, lineR, if_neg (by simp [h1.1]), if_neg (by simp), if_neg h1.2, if_neg (by omega), lineR_plain s (acc ++ [c]) r h2 (by simp; omega)]
    simp
theorem At.bytes {most : Nat} {b : List UInt8} : ∀ (p : List UInt8) {n room : Nat} {o r : List UInt8}, At most b n o (stB room p.length false) → b.drop n = p ++ r → At most b (n + p.length) (o ++ p) (stB room 0 false)
  | [], n, room, o, r, h, _ => by simpa using h
  | c :: p, n, room, o, r, h, hd => by
    have hn : n < b.length := by
      rcases Nat.lt_or_ge n b.length with h1 | h1
      · exact h1
      · rw [List.drop_of_length_le h1] at hd; simp at hd
    have hc := List.drop_eq_getElem_cons hn
    rw [hd, List.cons_append] at hc
    injection hc with h2 h3
    have h4 := At.bytes p (h.byte hn) h3.symm
    rw [← h2] at h4
    rw [List.length_cons]
    simpa [Nat.add_assoc, Nat.add_comm, Nat.add_left_comm] using h4
theorem drop_at {b r : List UInt8} {n : Nat} {c : UInt8} (h : b.drop n = c :: r) : ∃ hn : n < b.length, b[n] = c ∧ b.drop (n + 1) = r := by
  have hn : n < b.length := by
    rcases Nat.lt_or_ge n b.length with h1 | h1
    · exact h1
    · rw [List.drop_of_length_le h1] at h; simp at h
  have hc := List.drop_eq_getElem_cons hn
  rw [h] at hc
  injection hc with h2 h3
  exact ⟨hn, h2.symm, h3.symm⟩
theorem drop_app {b p r : List UInt8} {n : Nat} (h : b.drop n = p ++ r) : b.drop (n + p.length) = r := by
  rw [← List.drop_drop, h, List.drop_left]
theorem At.crlf {most n room : Nat} {b o r : List UInt8} (h : At most b n o (stB room 0 false)) (hd : b.drop n = 13 :: 10 :: r) : At most b (n + 2) o (stS room) := by
  obtain ⟨h1, h2, h3⟩ := drop_at hd
  have h4 := (h.cr h1).1 h2
  obtain ⟨h5, h6, h7⟩ := drop_at h3
  exact (h4.lf h5).1 h6
/-- A chunk. -/
theorem At.chunk {most n room : Nat} {b o p r s : List UInt8} (h : At most b n o (stS room)) (hd : b.drop n = s ++ 13 :: 10 :: (p ++ 13 :: 10 :: r)) (hs : noEnd s = true) (hl : s.length ≤ 8192) (hv : sizeV (sS s) = some p.length) (hp : p ≠ []) (hr : p.length ≤ room) :
    At most b (n + (s.length + 2 + (p.length + 2))) (o ++ p) (stS (room - p.length)) := by
  have h1 := (h.sized (by rw [hd]; exact lineR_plain s [] _ hs (by simpa using hl))).2.2.2 _ hv hr (fun e => hp (List.eq_nil_of_length_eq_zero e))
  have e1 : b.drop (n + (s.length + 2)) = p ++ 13 :: 10 :: r := by
    have := drop_app (p := s ++ [13, 10]) (r := p ++ 13 :: 10 :: r) (b := b) (n := n) (by rw [hd]; simp)
    simpa using this
  have h2 := At.bytes p h1 e1
  have h3 := h2.crlf (r := r) (drop_app e1)
  rw [show n + (s.length + 2 + (p.length + 2)) = n + (s.length + 2) + p.length + 2 by omega]
  exact h3
theorem noEnd_of {p : UInt8 → Bool} (h10 : p 10 = false) (h13 : p 13 = false) {l : List UInt8} (h : l.all p = true) : noEnd l = true := by
  unfold noEnd
  rw [List.all_eq_true] at h ⊢
  intro x hx
  have := h x hx
  rw [Bool.and_eq_true]
  refine ⟨decide_eq_true ?_, decide_eq_true ?_⟩
  · rintro rfl; rw [h10] at this; cases this
  · rintro rfl; rw [h13] at this; cases this
theorem no_of {p : UInt8 → Bool} {c : UInt8} (hc : p c = false) {l : List UInt8} (h : l.all p = true) : ∀ x ∈ l, x ≠ c := by
  rw [List.all_eq_true] at h
  rintro x hx rfl
  have := h x hx
  rw [hc] at this
  cases this
theorem noEnd_app (a b : List UInt8) : noEnd (a ++ b) = (noEnd a && noEnd b) := by unfold noEnd; rw [List.all_append]
theorem size_hex {n : Nat} (h : n ≤ top) : sizeV (sS (hexD n)) = some n ∧ noEnd (hexD n) = true := by
  have ha := (hexD_back n h).1
  have hn := no_of (p := fun c => decide (digv c < 16)) (c := 59) (by decide) ha
  have h1 : (k1 59 (sS (hexD n))).data.toList = hexD n := by unfold k1; rw [sS_list, sS_list, (cu_no hn).1]
  have h2 : (k2 59 (sS (hexD n))).data.toList = [] := by unfold k2; rw [sS_list, sS_list, (cu_no hn).2.1]
  refine ⟨?_, noEnd_of (p := fun c => decide (digv c < 16)) (by decide) (by decide) ha⟩
  unfold sizeV
  rw [h1, h2, (num_hex h).1, (num_hex h).2]
  rfl
def trlL (f : ByteArray × ByteArray) : List UInt8 := (f.1.data.toList ++ 58 :: 32 :: f.2.data.toList) ++ [13, 10]
def lastL (l : List (ByteArray × ByteArray)) : List UInt8 := [48, 13, 10] ++ (l.flatMap trlL ++ [13, 10])
theorem trim_sp {v : List UInt8} (h : v = trimB v) : trimB (32 :: v) = v := by
  rw [trimB_eq, trim_comm, ltrim_cons, if_pos (by decide), ← trim_comm, ← trimB_eq]
  exact h.symm
theorem trl_line {f : ByteArray × ByteArray} (h : chkF f = 0) : noEnd (f.1.data.toList ++ 58 :: 32 :: f.2.data.toList) = true ∧ k3 58 (sS (f.1.data.toList ++ 58 :: 32 :: f.2.data.toList)) = true ∧ fldF (sS (f.1.data.toList ++ 58 :: 32 :: f.2.data.toList)) = f := by
  unfold chkF at h
  split at h
  · rename_i h1
    split at h
    · rename_i h2
      unfold tokenB at h1
      rw [Bool.and_eq_true] at h1
      unfold valueB at h2
      rw [Bool.and_eq_true, decide_eq_true_eq] at h2
      have hn := no_of (c := 58) (p := tokc) (by decide) h1.1
      refine ⟨?_, ?_, ?_⟩
      · rw [noEnd_app, noEnd_of (p := tokc) (by decide) (by decide) h1.1]
        have := noEnd_of (p := valc) (by decide) (by decide) h2.1
        unfold noEnd at this ⊢
        rw [List.all_cons, List.all_cons, this]
        decide
      · unfold k3; rw [sS_list]; exact (cu_yes hn).2.2
      · unfold fldF
        have e1 : k1 58 (sS (f.1.data.toList ++ 58 :: 32 :: f.2.data.toList)) = f.1 := data_inj (by unfold k1; rw [sS_list, sS_list, (cu_yes hn).1])
        have e2 : (k2 58 (sS (f.1.data.toList ++ 58 :: 32 :: f.2.data.toList))).data.toList = 32 :: f.2.data.toList := by unfold k2; rw [sS_list, sS_list, (cu_yes hn).2.1]
        have e3 : trimS (k2 58 (sS (f.1.data.toList ++ 58 :: 32 :: f.2.data.toList))) = f.2 := data_inj (by
          rw [show (trimS (k2 58 (sS (f.1.data.toList ++ 58 :: 32 :: f.2.data.toList)))).data.toList = trimB (k2 58 (sS (f.1.data.toList ++ 58 :: 32 :: f.2.data.toList))).data.toList by simp [trimS], e2, trim_sp h2.2])
        rw [e1, e3]
    · cases h
  · cases h
theorem At.trls {most room : Nat} {b o r : List UInt8} : ∀ (l pre : List (ByteArray × ByteArray)) {n : Nat}, At most b n o (stT room pre) → b.drop n = l.flatMap trlL ++ 13 :: 10 :: r → (∀ f ∈ l, chkF f = 0) → (∀ f ∈ l, f.1.size + f.2.size ≤ 8190) → pre.length + l.length ≤ 100 → Fin' most b o (pre ++ l) (n + ((l.flatMap trlL).length + 2)) true 0
  | [], pre, n, h, hd, _, _, _ => by
    have := (h.trl (k := 2) (s := []) (by rw [hd]; exact lineR_plain [] [] r rfl (by simp))).1 rfl
    simpa using this
  | f :: l, pre, n, h, hd, hc, hs, hl => by
    have h0 := hc f List.mem_cons_self
    have hz := hs f List.mem_cons_self
    obtain ⟨t1, t2, t3⟩ := trl_line h0
    have hz2 : (f.1.data.toList ++ 58 :: 32 :: f.2.data.toList).length = f.1.size + f.2.size + 2 := by simp; omega
    have hd2 : b.drop n = (f.1.data.toList ++ 58 :: 32 :: f.2.data.toList) ++ 13 :: 10 :: (l.flatMap trlL ++ 13 :: 10 :: r) := by
      rw [hd, List.flatMap_cons]; simp [trlL]
    have hp := (h.trl (k := (f.1.data.toList ++ 58 :: 32 :: f.2.data.toList).length + 2) (s := f.1.data.toList ++ 58 :: 32 :: f.2.data.toList) (by rw [hd2]; exact lineR_plain _ [] _ t1 (by rw [hz2]; simp; omega))).2.2 (by rw [sS_size, hz2]; omega) (by
      rw [t2, t3, h0]
      simp only [List.length_cons] at hl
      simp
      omega)
    rw [t3] at hp
    have hd3 : b.drop (n + ((f.1.data.toList ++ 58 :: 32 :: f.2.data.toList).length + 2)) = l.flatMap trlL ++ 13 :: 10 :: r := by
      have := drop_app (b := b) (n := n) (p := (f.1.data.toList ++ 58 :: 32 :: f.2.data.toList) ++ [13, 10]) (r := l.flatMap trlL ++ 13 :: 10 :: r) (by rw [hd2]; simp)
      rw [List.length_append] at this
      exact this
    have ih := At.trls l (pre ++ [f]) hp hd3 (fun x hx => hc x (List.mem_cons_of_mem _ hx)) (fun x hx => hs x (List.mem_cons_of_mem _ hx)) (by simp only [List.length_append, List.length_cons, List.length_nil] at hl ⊢; omega)
    rw [List.append_assoc, List.singleton_append] at ih
    have e : n + ((f.1.data.toList ++ 58 :: 32 :: f.2.data.toList).length + 2) + ((l.flatMap trlL).length + 2) = n + (((f :: l).flatMap trlL).length + 2) := by
      rw [List.flatMap_cons, List.length_append]
      simp only [trlL, List.length_append, List.length_cons, List.length_nil]
      omega
    rw [e] at ih
    exact ih
theorem At.last {most room n : Nat} {b o r : List UInt8} {l : List (ByteArray × ByteArray)} (h : At most b n o (stS room)) (hd : b.drop n = lastL l ++ r) (hc : ∀ f ∈ l, chkF f = 0) (hs : ∀ f ∈ l, f.1.size + f.2.size ≤ 8190) (hl : l.length ≤ 100) : Fin' most b o l (n + (lastL l).length) true 0 := by
  have hd2 : b.drop n = hexD 0 ++ 13 :: 10 :: (l.flatMap trlL ++ 13 :: 10 :: r) := by
    rw [hd, show hexD 0 = [48] by rw [hexD]; rfl]
    simp [lastL]
  have hx := size_hex (n := 0) (by unfold top; omega)
  have h1 := (h.sized (k := (hexD 0).length + 2) (s := hexD 0) (by rw [hd2]; exact lineR_plain _ [] _ hx.2 (by rw [show hexD 0 = [48] by rw [hexD]; rfl]; simp))).2.2.1 hx.1
  have hd3 : b.drop (n + ((hexD 0).length + 2)) = l.flatMap trlL ++ 13 :: 10 :: r := by
    have := drop_app (b := b) (n := n) (p := hexD 0 ++ [13, 10]) (r := l.flatMap trlL ++ 13 :: 10 :: r) (by rw [hd2]; simp)
    rw [List.length_append] at this
    exact this
  have h2 := At.trls l [] h1 hd3 hc hs (by simpa using hl)
  rw [List.nil_append] at h2
  have e : n + ((hexD 0).length + 2) + ((l.flatMap trlL).length + 2) = n + (lastL l).length := by
    rw [show hexD 0 = [48] by rw [hexD]; rfl]
    simp only [lastL, List.length_append, List.length_cons, List.length_nil]
    omega
  rw [e] at h2
  exact h2
/-- Chunks of any pieces and the last one, read. -/
theorem At.back {most : Nat} {b rest : List UInt8} {l : List (ByteArray × ByteArray)} (hc : ∀ f ∈ l, chkF f = 0) (hs : ∀ f ∈ l, f.1.size + f.2.size ≤ 8190) (hl : l.length ≤ 100) : ∀ (ps : List (List UInt8)) {n : Nat} {o : List UInt8}, At most b n o (stS ps.flatten.length) → ps.flatten.length ≤ 4294967296 → b.drop n = ps.flatMap chunkL ++ (lastL l ++ rest) → Fin' most b (o ++ ps.flatten) l (n + ((ps.flatMap chunkL).length + (lastL l).length)) true 0
  | [], n, o, h, _, hd => by
    have := h.last (r := rest) (by simpa using hd) hc hs hl
    simpa using this
  | p :: ps, n, o, h, hb, hd => by
    rw [List.flatMap_cons, List.append_assoc] at hd
    rw [List.flatten_cons] at h ⊢
    rw [List.flatten_cons, List.length_append] at hb
    by_cases hp : p = []
    · subst hp
      have e : chunkL [] = [] := rfl
      rw [e, List.nil_append] at hd
      have := At.back hc hs hl ps h (by omega) hd
      simpa [e] using this
    · have hx := size_hex (n := p.length) (by unfold top; omega)
      have hq : chunkL p = hexD p.length ++ 13 :: 10 :: (p ++ [13, 10]) := by unfold chunkL; rw [if_neg hp]; simp
      have hlen := hexD_len14 (n := p.length) (by omega)
      have h1 := h.chunk (p := p) (s := hexD p.length) (r := ps.flatMap chunkL ++ (lastL l ++ rest)) (by rw [hd, hq]; simp) hx.2 (by omega) hx.1 hp (by rw [List.length_append]; omega)
      have e2 : (p ++ ps.flatten).length - p.length = ps.flatten.length := by rw [List.length_append]; omega
      rw [e2] at h1
      have e3 : (hexD p.length).length + 2 + (p.length + 2) = (chunkL p).length := by rw [hq]; simp; omega
      rw [e3] at h1
      have ih := At.back hc hs hl ps h1 (by omega) (drop_app hd)
      rw [List.append_assoc] at ih
      rw [List.flatMap_cons, List.length_append]
      rw [show n + (chunkL p).length + ((ps.flatMap chunkL).length + (lastL l).length) = n + ((chunkL p).length + (ps.flatMap chunkL).length + (lastL l).length) by omega] at ih
      exact ih
theorem chk_all {l : List (ByteArray × ByteArray)} (h : chkL l = 0) : l.length ≤ 100 ∧ ∀ f ∈ l, chkF f = 0 := by
  unfold chkL at h
  split at h
  · cases h
  · refine ⟨by omega, fun f hf => ?_⟩
    unfold chkA at h
    cases hx : l.find? (fun f => chkF f != 0) with
    | none =>
      rw [List.find?_eq_none] at hx
      simpa using hx f hf
    | some g =>
      rw [hx] at h
      have := List.find?_some hx
      simp at this
      exact absurd h this
end Go.Proofs.YthciahpadninpaaDoor
