/- One field more in the parser's row, one byte more in its line. -/
import Derived.Test.YtcagjipdldlehaaGreatDoorHPar
import Derived.Test.YtcagjipdldlehaaGreatDoorStp
namespace Go.Proofs.YtcagjipdldlehaaGreatDoor
open Go.ChangeShapes Go.WideShapes Go.ChangeAt Go.RowKit

theorem append_fld_kh (W : World) (base : Nat) (ty : TypeId) (v : Value) (A : List (ByteArray × ByteArray)) (f : ByteArray × ByteArray) (hown : FRow W base v A) (hn : A.length ≤ 1099511627776) (hbase : base ≤ W.heap.size) :
    ∃ v' W', (Builtin.append_ #[43, 43] ty #[v, .slice (some ⟨W.heap.size, 0, none⟩) 1 1]).run Tryz.prog (W.alloc (.cells #[.string f.1, .string f.2] 48)) = .ok v' W' ∧ FRow W' base v' (A ++ [f]) ∧ Below base W W' ∧ Kept W W' v v' := by
  obtain ⟨i, hi, hz, hs1, hb1⟩ := infoF
  have ho : FRow (W.alloc (.cells #[.string f.1, .string f.2] 48)) base v A := hown.frame fun g hg => Below.heap_alloc W _ g (hown.lt hg).2
  have hsz : (W.alloc (.cells #[.string f.1, .string f.2] 48)).heap.size = W.heap.size + 1 := by show (W.heap.push _).size = _; simp
  obtain ⟨v', W', hr, h1, hg, _, hloc⟩ := run_append_own_at (w := W.alloc (.cells #[.string f.1, .string f.2] 48)) base 43 ty 48 i _ 2 32 Tryz.underlying43 hi hz hs1 hb1 rfl (by omega) v A.length (fcs A) ho ⟨W.heap.size, 0, none⟩ 1 1 (fc f) rfl (two_cells W f) (by intro u hu; simp [fc] at hu; rcases hu with rfl | rfl <;> rfl) (by unfold maxLen; omega) (by omega) (by simp; omega)
  refine ⟨v', W', hr, ?_, ?_, ?_⟩
  · unfold FRow
    rw [List.length_append, fcs_snoc]
    exact h1
  · exact ((Below.refl base W).alloc hbase _).grown hg (by simp; omega) (fun k hk => (hown.lt hk).1)
  · have hs2 := hg.size
    refine ⟨by rw [hsz] at hs2; omega, fun g h2 h3 => ?_, fun g h2 h3 h4 => ?_⟩
    · rw [hg.block g (by rw [hsz]; omega) (fun h => h3 h.symm)]
      exact Below.heap_alloc W _ g h2
    · rcases hloc with h5 | h5
      · exact h3 (h5.symm.trans h4)
      · rw [h5, hsz] at h4
        simp only [Option.some.injEq] at h4
        omega
/-- A row of the parser's has grown: its own blocks are as they were. -/
theorem Par.grow_f {w W : World} {base g : Nat} {lv fv v' : Value} {p : Pz} {fs : List (ByteArray × ByteArray)} (h : Par w base g lv fv p) (hk : Kept w W fv v') (hR : FRow W base v' fs) :
    W.heap[g]? = some (.cells (pcells p g lv fv) 92 (0, 0)) ∧ Par (W.setCell ⟨g, 12, none⟩ v') base g lv v' { p with fs := fs } := by
  have hb : W.heap[g]? = some (.cells (pcells p g lv fv) 92 (0, 0)) := (hk.block g h.lt h.gf).trans h.blk
  have hg' : v'.ownBlock ≠ some g := hk.apart g h.lt h.gf
  refine ⟨hb, ⟨hp_set hb 12 v', ?_, ?_, h.gb, h.gl, hg', ?_⟩⟩
  · refine h.line.frame fun k e => ?_
    have hl := (h.line.lt e).2
    rw [Below.heap_setCell W ⟨g, 12, none⟩ v' k (fun e2 => h.gl (by rw [e, e2]))]
    exact hk.block k hl (h.lf k e)
  · exact hR.frame fun k e => Below.heap_setCell W ⟨g, 12, none⟩ v' k (fun e2 => hg' (by rw [e, e2]))
  · intro k e
    exact hk.apart k (h.line.lt e).2 (h.lf k e)
theorem Par.app_f {w : World} {base g : Nat} {lv fv : Value} {p : Pz} (h : Par w base g lv fv p) (ty : TypeId) (f : ByteArray × ByteArray) (hn : p.fs.length ≤ 100) :
    ∃ ad n c W', (Builtin.append_ #[43, 43] ty #[fv, .slice (some ⟨w.heap.size, 0, none⟩) 1 1]).run Tryz.prog (w.alloc (.cells #[.string f.1, .string f.2] 48)) = .ok (.slice ad n c) W' ∧
      W'.cell? ⟨g, 12, none⟩ = some fv ∧ W'.frozen? ⟨g, 12, none⟩ = false ∧ Par (W'.setCell ⟨g, 12, none⟩ (.slice ad n c)) base g lv (.slice ad n c) { p with fs := p.fs ++ [f] } ∧ PKh w (W'.setCell ⟨g, 12, none⟩ (.slice ad n c)) g lv fv lv (.slice ad n c) := by
  obtain ⟨v', W', hr, hR, hB, hK⟩ := append_fld_kh w base ty fv p.fs f h.flds (by omega) (Nat.le_of_lt (Nat.lt_of_le_of_lt h.gb h.lt))
  obtain ⟨ad, c, rfl, _, _⟩ := hR.shape
  obtain ⟨hb, hP⟩ := h.grow_f hK hR
  refine ⟨ad, _, c, W', hr, cell_at hb 12, by rw [frozen_at hb]; simp, hP, ?_⟩
  have hs := PKh.set W' g 12 (.slice ad (p.fs ++ [f]).length c) lv fv
  exact ⟨hs.os.trans hB.os, hs.tape.trans hB.tape, hs.output.trans hB.output, Nat.le_trans hK.size hs.size, fun k hk h1 h2 h3 => (Below.heap_setCell W' ⟨g, 12, none⟩ _ k h1).trans (hK.block k hk h3), fun _ _ e => e, fun k hk e => hK.apart k hk e⟩
/-- A byte more in the line. -/
theorem Par.grow_l {w W : World} {base g : Nat} {lv fv v' : Value} {p : Pz} {l : List UInt8} (h : Par w base g lv fv p) (hk : Kept w W lv v') (hR : Row W base 5 v' (bc l)) :
    W.heap[g]? = some (.cells (pcells p g lv fv) 92 (0, 0)) ∧ Par (W.setCell ⟨g, 2, none⟩ v') base g v' fv { p with line := l } := by
  have hb : W.heap[g]? = some (.cells (pcells p g lv fv) 92 (0, 0)) := (hk.block g h.lt h.gl).trans h.blk
  have hg' : v'.ownBlock ≠ some g := hk.apart g h.lt h.gl
  have hfl : ∀ k, fv.ownBlock = some k → lv.ownBlock ≠ some k := fun k e e2 => h.lf k e2 e
  refine ⟨hb, ⟨hp_set hb 2 v', ?_, ?_, h.gb, hg', h.gf, ?_⟩⟩
  · exact hR.frame fun k e => Below.heap_setCell W ⟨g, 2, none⟩ v' k (fun e2 => hg' (by rw [e, e2]))
  · refine h.flds.frame fun k e => ?_
    have hl := (h.flds.lt e).2
    rw [Below.heap_setCell W ⟨g, 2, none⟩ v' k (fun e2 => h.gf (by rw [e, e2]))]
    exact hk.block k hl (hfl k e)
  · intro k e e2
    exact hk.apart k (h.flds.lt e2).2 (hfl k e2) e
theorem Par.app_l {w : World} {base g : Nat} {lv fv : Value} {p : Pz} (h : Par w base g lv fv p) (ty : TypeId) (x : UInt8) (hn : p.line.length ≤ 65536) :
    ∃ ad n c W', (Builtin.append_ #[31, 31] ty #[lv, .slice (some ⟨w.heap.size, 0, none⟩) 1 1]).run Tryz.prog (w.alloc (.cells #[.int .u8 (x.toNat : Int)] 5)) = .ok (.slice ad n c) W' ∧
      W'.cell? ⟨g, 2, none⟩ = some lv ∧ W'.frozen? ⟨g, 2, none⟩ = false ∧ Par (W'.setCell ⟨g, 2, none⟩ (.slice ad n c)) base g (.slice ad n c) fv { p with line := p.line ++ [x] } ∧ PKh w (W'.setCell ⟨g, 2, none⟩ (.slice ad n c)) g lv fv (.slice ad n c) fv := by
  have hlen : (bc p.line).length = p.line.length := by simp [bc]
  obtain ⟨v', W', hr, hR, hB, hK⟩ := append_one_k elB w base ty lv (bc p.line) (.int .u8 (x.toNat : Int)) h.line rfl (by rw [hlen]; omega) (by rw [hlen]; omega) (Nat.le_of_lt (Nat.lt_of_le_of_lt h.gb h.lt))
  rw [show bc p.line ++ [.int .u8 (x.toNat : Int)] = bc (p.line ++ [x]) by simp [bc]] at hR
  obtain ⟨ad, c, rfl, _, _⟩ := hR.shape
  obtain ⟨hb, hP⟩ := h.grow_l hK hR
  refine ⟨ad, _, c, W', hr, cell_at hb 2, by rw [frozen_at hb]; simp, hP, ?_⟩
  have hs := PKh.set W' g 2 (.slice ad (bc (p.line ++ [x])).length c) lv fv
  exact ⟨hs.os.trans hB.os, hs.tape.trans hB.tape, hs.output.trans hB.output, Nat.le_trans hK.size hs.size, fun k hk h1 h2 h3 => (Below.heap_setCell W' ⟨g, 2, none⟩ _ k h1).trans (hK.block k hk h2), fun k hk e => hK.apart k hk e, fun _ _ e => e⟩
end Go.Proofs.YtcagjipdldlehaaGreatDoor
