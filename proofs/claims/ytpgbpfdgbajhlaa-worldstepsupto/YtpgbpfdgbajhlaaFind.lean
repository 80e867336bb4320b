/- A world's calls that look for a connection and change one alone. -/
import Derived.Test.YtpgbpfdgbajhlaaObj
namespace Go.Proofs.Ytpgbpfdgbajhlaa
open Go.ChangeShapes Go.WideShapes Go.ChangeAt Go.RowKit

theorem zero69 (W : World) : (zeroValue 69).run Try.prog W = .ok (.pointer none) W := by kernel_rfl
theorem zero30 (W : World) : (zeroValue 30).run Try.prog W = .ok (.slice none 0 0) W := by kernel_rfl

section
variable {W : World} {c : Nat} {S : List Cn} {dr : List Int} {own : Nat → Option Tag} {ph : Nat → Ph} {mo mc : Option Nat} {fo fc : Int → Option Value} {dv : Value} {dg : Option Nat}

theorem WObj.c0 (h : WObj W c S dr own ph mo mc fo fc dv dg) : W.cell? ⟨c, 0, none⟩ = some (.map mo) := by rw [cell_of h.blk]; rfl
theorem WObj.c1 (h : WObj W c S dr own ph mo mc fo fc dv dg) : W.cell? ⟨c, 1, none⟩ = some (.map mc) := by rw [cell_of h.blk]; rfl
theorem WObj.c2 (h : WObj W c S dr own ph mo mc fo fc dv dg) : W.cell? ⟨c, 2, none⟩ = some dv := by rw [cell_of h.blk]; rfl
theorem WObj.fz (h : WObj W c S dr own ph mo mc fo fc dv dg) (i : Nat) : W.frozen? ⟨c, i, none⟩ = false := frozen_of h.blk i

theorem WObj.lookO (h : WObj W c S dr own ph mo mc fo fc dv dg) {k : Int} (hk : (Lit.int .i64 k).wf = true) : (Instr.lookup 58 (.map mo) (.int .i64 k) false).run Try.prog W = .ok ((fo k).getD (.pointer none)) W := by
  rcases h.maps with ⟨rfl, _, rfl⟩ | ⟨bo, bc, rfl, _, _, _, p1, _⟩
  · rw [nil_look false Try.underlying58 (zero69 W) hk, (h.fn k (fun x hx => by cases hx)).1]; rfl
  · exact p1.look Try.underlying58 (zero69 W) hk
theorem WObj.lookC (h : WObj W c S dr own ph mo mc fo fc dv dg) {k : Int} (hk : (Lit.int .i64 k).wf = true) : (Instr.lookup 59 (.map mc) (.int .i64 k) false).run Try.prog W = .ok ((fc k).getD (.slice none 0 0)) W := by
  rcases h.maps with ⟨_, rfl, rfl⟩ | ⟨bo, bc, _, rfl, _, _, _, p2⟩
  · rw [nil_look false Try.underlying59 (zero30 W) hk, (h.fn k (fun x hx => by cases hx)).2]; rfl
  · exact p2.look Try.underlying59 (zero30 W) hk
theorem WObj.lookCk (h : WObj W c S dr own ph mo mc fo fc dv dg) {k : Int} (hk : (Lit.int .i64 k).wf = true) : (Instr.lookup 59 (.map mc) (.int .i64 k) true).run Try.prog W = .ok (.tuple #[(fc k).getD (.slice none 0 0), .bool (fc k).isSome]) W := by
  rcases h.maps with ⟨_, rfl, rfl⟩ | ⟨bo, bc, _, rfl, _, _, _, p2⟩
  · rw [nil_look true Try.underlying59 (zero30 W) hk, (h.fn k (fun x hx => by cases hx)).2]; rfl
  · exact p2.lookOk Try.underlying59 (zero30 W) hk

theorem find_any (h : WObj W c S dr own ph mo mc fo fc dv dg) {k : Int} (hk : (Lit.int .i64 k).wf = true) :
    Calls Try.prog 36 #[ptr c, .int .i64 k] W fun e W' => e = .returned ((fo k).getD (.pointer none)) ∧ W = W' := by
  have c0 := h.c0
  have hl := h.lookO hk
  clear h hk
  unfold ptr
  go_enter Try.func36, Try.ntmps36
  go_wp2
  go_ret
  exact ⟨rfl, rfl⟩
theorem find_nil (W : World) (k : Int) : Calls Try.prog 36 #[.pointer none, .int .i64 k] W fun e W' => e = .returned (.pointer none) ∧ W = W' := by
  go_enter Try.func36, Try.ntmps36
  go_wp2
  go_ret
  exact ⟨rfl, rfl⟩
end

/-- A world of these connections and numbers to be drawn. -/
def Wd (W : World) (c : Nat) (S : List Cn) (dr : List Int) (own : Nat → Option Tag) : Prop :=
  SOk S dr ∧ ∃ ph mo mc fo fc dv dg, WObj W c S dr own ph mo mc fo fc dv dg

theorem Wd.frame {W W' : World} {c : Nat} {S : List Cn} {dr : List Int} {own : Nat → Option Tag} (h : Wd W c S dr own) (hs : W.heap.size ≤ W'.heap.size) (hb : ∀ b t, own b = some t → W'.heap[b]? = W.heap[b]?) : Wd W' c S dr own := by
  obtain ⟨hS, ph, mo, mc, fo, fc, dv, dg, h⟩ := h
  exact ⟨hS, ph, mo, mc, fo, fc, dv, dg, h.frame hs hb⟩
theorem Wd.low {W : World} {c : Nat} {S : List Cn} {dr : List Int} {own : Nat → Option Tag} (h : Wd W c S dr own) : ∀ b t, own b = some t → b < W.heap.size := by
  obtain ⟨hS, ph, mo, mc, fo, fc, dv, dg, h⟩ := h
  exact h.low
theorem Wd.ok {W : World} {c : Nat} {S : List Cn} {dr : List Int} {own : Nat → Option Tag} (h : Wd W c S dr own) : SOk S dr := h.1

theorem filter_set_length (p : Cn → Bool) : ∀ (S : List Cn) (i : Nat) (x x' : Cn), S[i]? = some x → p x' = p x → ((S.set i x').filter p).length = (S.filter p).length
  | [], _, _, _, h, _ => by simp at h
  | y :: S, 0, x, x', h, e => by
    simp only [List.getElem?_cons_zero, Option.some.injEq] at h
    subst h
    simp only [List.set_cons_zero, List.filter_cons, e]
    split <;> simp
  | y :: S, i + 1, x, x', h, e => by
    simp only [List.getElem?_cons_succ] at h
    have ih := filter_set_length p S i x x' h e
    simp only [List.set_cons_succ, List.filter_cons]
    split <;> simp [ih]
theorem map_set_same {α : Type} (f : Cn → α) : ∀ (S : List Cn) (i : Nat) (x x' : Cn), S[i]? = some x → f x' = f x → (S.set i x').map f = S.map f
  | [], _, _, _, h, _ => by simp at h
  | y :: S, 0, x, x', h, e => by
    simp only [List.getElem?_cons_zero, Option.some.injEq] at h
    subst h
    simp [e]
  | y :: S, i + 1, x, x', h, e => by
    simp only [List.getElem?_cons_succ] at h
    simp [map_set_same f S i x x' h e]
theorem SOk.mem {S : List Cn} {i : Nat} {x' y : Cn} (hy : y ∈ S.set i x') : y = x' ∨ y ∈ S := by
  rcases List.mem_or_eq_of_mem_set hy with h | h
  · exact .inr h
  · exact .inl h
theorem SOk.set {S : List Cn} {dr : List Int} (hS : SOk S dr) {i : Nat} {x x' : Cn} (hx : S[i]? = some x) (hn : x'.num = x.num) (ho : x'.isOpen = x.isOpen) (hw : x'.waits.length ≤ 1048576) (hr : 0 ≤ x'.room ∧ x'.room ≤ 1048576) (hl : x'.sent.length ≤ 70368744177664) : SOk (S.set i x') dr := by
  have hm := List.mem_of_getElem? hx
  refine ⟨by rw [map_set_same Cn.num S i x x' hx hn]; exact hS.nums, fun y hy => ?_, fun y hy => ?_, fun y hy => ?_, by rw [filter_set_length Cn.isOpen S i x x' hx ho]; exact hS.cnt, fun y hy => ?_, by rw [List.length_set]; exact hS.size, hS.draws, hS.dlow⟩
  · rcases SOk.mem hy with rfl | hy
    · rw [hn]; exact hS.low x hm
    · exact hS.low y hy
  · rcases SOk.mem hy with rfl | hy
    · exact hw
    · exact hS.wlen y hy
  · rcases SOk.mem hy with rfl | hy
    · exact hr
    · exact hS.rm y hy
  · rcases SOk.mem hy with rfl | hy
    · exact hl
    · exact hS.slen y hy

section
variable {W : World} {c : Nat} {S : List Cn} {dr : List Int} {own : Nat → Option Tag} {ph : Nat → Ph} {mo mc : Option Nat} {fo fc : Int → Option Value} {dv : Value} {dg : Option Nat} {i : Nat} {x : Cn} {k : Int}

theorem WObj.no (h : WObj W c S dr own ph mo mc fo fc dv dg) (hno : ∀ x ∈ S, x.num = k → x.isOpen = false) : fo k = none := by
  by_cases hn : ∀ x ∈ S, x.num ≠ k
  · exact (h.fn k hn).1
  · have : ∃ x, x ∈ S ∧ x.num = k := Classical.byContradiction fun hc => hn fun x hx e => hc ⟨x, hx, e⟩
    obtain ⟨x, hx, rfl⟩ := this
    obtain ⟨i, hi, rfl⟩ := List.getElem_of_mem hx
    exact ((h.fs i _ (List.getElem?_eq_getElem hi)).2 (hno _ hx rfl)).1
theorem find_no (h : WObj W c S dr own ph mo mc fo fc dv dg) (hk : (Lit.int .i64 k).wf = true) (hno : ∀ x ∈ S, x.num = k → x.isOpen = false) :
    Calls Try.prog 36 #[ptr c, .int .i64 k] W fun e W' => e = .returned (.pointer none) ∧ W = W' := by
  have hf := find_any h hk
  rw [h.no hno] at hf
  exact hf
theorem SOk.wf (hS : SOk S dr) (hx : S[i]? = some x) : (Lit.int .i64 x.num).wf = true := by
  have := hS.low x (List.mem_of_getElem? hx)
  exact wf_of (by omega) this.2
theorem find_at (h : WObj W c S dr own ph mo mc fo fc dv dg) (hS : SOk S dr) (hx : S[i]? = some x) (hop : x.isOpen = true) :
    Calls Try.prog 36 #[ptr c, .int .i64 x.num] W fun e W' => e = .returned (ptr (ph i).blk) ∧ W = W' := by
  have hf := find_any h (hS.wf hx)
  rw [((h.fs i x hx).1 hop).1] at hf
  exact hf

theorem end_no (h : Wd W c S dr own) (hk : (Lit.int .i64 k).wf = true) (hno : ∀ x ∈ S, x.num = k → x.isOpen = false) :
    Calls Try.prog 29 #[ptr c, .int .i64 k] W fun e W' => e = .returned (.int .i64 6) ∧ W = W' := by
  obtain ⟨hS, ph, mo, mc, fo, fc, dv, dg, h⟩ := h
  have h := hide (find_no h hk hno)
  clear hS hno hk
  unfold ptr at h ⊢
  go_enter Try.func29, Try.ntmps29
  go_wp2_with (go_at_call 36; refine h.out.mono ?_; rintro e w' ⟨rfl, rfl⟩)
  go_ret
  exact ⟨rfl, rfl⟩
theorem end_at (h : Wd W c S dr own) (hx : S[i]? = some x) (hop : x.isOpen = true) :
    Calls Try.prog 29 #[ptr c, .int .i64 x.num] W fun e W' => e = .returned (.int .i64 0) ∧ Wd W' c (S.set i { x with ended := true }) dr own ∧ Kp own own W W' := by
  obtain ⟨hS, ph, mo, mc, fo, fc, dv, dg, h⟩ := h
  have hE := (h.ent i x hx).op hop
  have hf := hide (find_at h hS hx hop)
  have fz1 := frozen_of hE.blk 1
  have cc1 : W.cell? ⟨(ph i).blk, 1, none⟩ = some (.bool x.ended) := by rw [cell_of hE.blk]; rfl
  have fin : Hid (Wd (W.setCell ⟨(ph i).blk, 1, none⟩ (.bool true)) c (S.set i { x with ended := true }) dr own ∧ Kp own own W (W.setCell ⟨(ph i).blk, 1, none⟩ (.bool true))) := by
    have hfr := Fr.set W (ph i).blk 1 (.bool true)
    refine ⟨⟨hS.set hx rfl rfl (hS.wlen x (List.mem_of_getElem? hx)) (hS.rm x (List.mem_of_getElem? hx)) (hS.slen x (List.mem_of_getElem? hx)), _, mo, mc, fo, fc, dv, dg, h.setEnt (p' := ph i) hx hop (x' := { x with ended := true }) hop rfl rfl (hfr.mono (fun b _ e => by rw [e]; exact .inl hE.tag)) (fun _ _ e => e) (fun b t e => Nat.lt_of_lt_of_le (h.low b t e) hfr.size) ?_⟩, hfr.mono (fun b _ e => by rw [e, hE.tag]; nofun), fun _ _ e => e⟩
    have hne : ∀ g t, own g = some t → t ≠ .cn i → g ≠ (ph i).blk := fun g t e ht eg => by rw [eg, hE.tag] at e; cases e; exact ht rfl
    refine ⟨(h.ent i x hx).row.frame hfr.size (fun g hg => hp_set_other _ _ _ _ _ (hne g _ ((h.ent i x hx).stag g hg) nofun)), (h.ent i x hx).stag, fun _ => ⟨?_, hE.tag, hE.row.frame hfr.size (fun g hg => hp_set_other _ _ _ _ _ (hne g _ (hE.wtag g hg) nofun)), hE.wtag⟩⟩
    rw [hp_set hE.blk]; rfl
  clear hE h hS hop hx
  unfold ptr at hf ⊢
  go_enter Try.func29, Try.ntmps29
  go_wp2_with (go_at_call 36; refine hf.out.mono ?_; rintro e w' ⟨rfl, rfl⟩)
  go_ret
  exact ⟨rfl, Hid.out fin⟩
end
end Go.Proofs.Ytpgbpfdgbajhlaa
