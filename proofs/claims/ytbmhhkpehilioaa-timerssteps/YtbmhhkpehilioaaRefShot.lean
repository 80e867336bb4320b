/- The document's Fire, and its least free slot. -/
import Derived.Test.YtbmhhkpehilioaaRefFire
namespace Go.Proofs.Ytbmhhkpehilioaa
open Go.ChangeShapes Go.WideShapes Go.ChangeAt Go.RowKit

section
variable {W W' : World} {base c : Nat} {most : Int} {L : List Tmr} {G : List Int} {vl vg : Value}
theorem RObj.frame (h : RObj W base c most L G vl vg) {T : Nat → Prop} (hF : Fr T W W') (h1 : ¬ T c) (h2 : ∀ g, vl.ownBlock = some g → ¬ T g) (h3 : ∀ g, vg.ownBlock = some g → ¬ T g) : RObj W' base c most L G vl vg :=
  ⟨hF.hd h1 h.hd, h.bb, h.l.frame hF h2, owns_frame h.g hF h3, h.l0, h.g0, h.lg⟩
structure RFd (W wr : World) (base c : Nat) (most : Int) (L : List Tmr) (G : List Int) (vl vg : Value) (now : Int) (u : Value) (ks : List Int) (X : List Tmr) (v : Value) : Prop where
  shot : Shot now L ks X
  obj : RObj wr base c most X G v vg
  fr : Fr (fun k => k = c ∨ W.heap.size ≤ k) W wr
  row : wr.ownsRow W.heap.size 3 1 u ks.length (ks.map fun x => Value.int .i64 x)
  apart : ∀ g, u.ownBlock = some g → v.ownBlock ≠ some g
  place : ∀ g, v.ownBlock = some g → vl.ownBlock = some g ∨ W.heap.size ≤ g
theorem RFd.cl {now : Int} {u v : Value} {ks : List Int} {X : List Tmr} {wr w2 : World} (h : RFd W wr base c most L G vl vg now u ks X v) (hc : Cl wr w2) : RFd W w2 base c most L G vl vg now u ks X v :=
  ⟨h.shot, h.obj.cl hc, h.fr.trans hc.out (fun _ _ x => x.elim), owns_frame h.row hc.out (fun _ _ x => x), h.apart, h.place⟩

set_option maxHeartbeats 2000000 in
theorem rfire_any (h : RObj W base c most L G vl vg) (hl : L.length ≤ 8192) (now : Int) :
    Calls Try.prog 20 #[.pointer (some ⟨c, 0, none⟩), .int .i64 now] W fun e w' => ∃ u ks X v, e = .returned u ∧ RFd W w' base c most L G vl vg now u ks X v ∧ (X = [] ∨ now < (fst1 X).when) := by
  have hcw := h.lt
  have hgw : Hid (∀ g, vg.ownBlock = some g → g < W.heap.size) := hide (fun g hg => (owns_block h.g hg).2)
  have H0 : Hid (RFd W W base c most L G vl vg now (.slice none 0 0) [] L vl) := hide ⟨.none, h, Fr.refl _ _, ⟨rfl, .inl ⟨rfl, rfl⟩⟩, fun g hg => by simp [Value.ownBlock] at hg, fun g hg => .inl hg⟩
  clear h
  go_enter Try.func20, Try.ntmps20
  go_wp2_with fail
  go_loopw [5] (fun u wr => ∃ ks X v, Hid (RFd W wr base c most L G vl vg now u ks X v)) (fun u _ => L.length - slen u)
  case atStart => exact ⟨[], L, vl, H0⟩
  case round =>
    clear H0
    obtain ⟨ks, X, v, HH⟩ := hrel
    have hsl := HH.out.shot.len
    have c1 := HH.out.obj.c1
    obtain ⟨ax, cx, hx, _⟩ := HH.out.obj.l.shape
    obtain ⟨au, cu, hu, _⟩ := owns_shape HH.out.row
    subst hx hu
    by_cases h0 : X.length = 0
    · have HX : Hid (X = []) := hide (List.eq_nil_of_length_eq_zero h0)
      rw [h0] at c1
      go_wp2_with fail
      go_ret
      exact ⟨_, ks, X, _, rfl, HH.out, .inl HX.out⟩
    · have hpos : 0 < X.length := by omega
      have hposi : (0 : Int) < X.length := by omega
      have hf := hide (fun (V : World) (hV : Cl wr V) => rfirst_any (HH.out.obj.cl hV) (by omega) hpos)
      obtain ⟨t, Ht⟩ : ∃ t, Hid (fst1 X = t) := ⟨_, hide rfl⟩
      have hmem := hide (keep_lt X (fst1 X) (fst1_mem X hpos))
      rw [Ht.out] at hf hmem
      obtain ⟨tw, tk, th⟩ := t
      dsimp only at hf hmem
      have hq := tfield0 tw tk th
      by_cases hn : tw ≤ now
      · have hf1 := hide (hf.out wr (Cl.refl _))
        go_wp2_with fail
        refine hf1.out.mono ?_
        rintro e w1 ⟨rfl, k1⟩
        have K1 := hide k1
        have hf2 := hide (hf.out w1 k1)
        clear k1 hf1
        go_wp2_with fail
        refine hf2.out.mono ?_
        rintro e w2 ⟨rfl, k2⟩
        have K2 := hide (K1.out.trans k2)
        have HD2 := hide (HH.out.cl (K1.out.trans k2))
        clear k2 hf2 hf
        go_wp2_with (at_builtin; apply Hid.out)
        unfold Hid
        have A3 : Cl w2 (w2.alloc (.cells #[.int .i64 tw, .int .i64 tk, .int .i64 th] 78)) := Fr.alloc _ _ _
        have HD3 := hide (HD2.out.cl A3)
        refine wpList_append_int rfl _ _ rfl (w2.alloc (.cells #[.int .i64 tw, .int .i64 tk, .int .i64 th] 78)) W.heap.size (.slice au ks.length cu) ks.length _ tk rfl (by simp [Act.eval, go_sem]) HD3.out.row (by omega) HD3.out.fr.size ?_
        intro u' w4 o4 f4 l4
        have blk : ∀ g, (Value.slice au ks.length cu).ownBlock = some g → W.heap.size ≤ g ∧ g < w2.heap.size := fun g hg => owns_block HD2.out.row hg
        have O4 : RObj w4 base c most X G (.slice ax X.length cx) vg := HD3.out.obj.frame f4 (fun e => by have := (blk c e.symm).1; omega) (fun g hg e => HD3.out.apart g e.symm hg) (fun g hg e => by have := (blk g e.symm).1; have := hgw.out g hg; omega)
        have hca := hide (rcancel_any O4 (by omega) th)
        have hap4 : ∀ g, u'.ownBlock = some g → g < w4.heap.size ∧ W.heap.size ≤ g := fun g hg => ⟨(owns_block o4 hg).2, (owns_block o4 hg).1⟩
        have F4 : Fr (fun k => k = c ∨ W.heap.size ≤ k) W w4 := HD3.out.fr.trans f4 (fun i hi e => .inr (blk i e.symm).1)
        have HF4 := hide F4
        have HO4 := hide o4
        have HA4 := hide hap4
        have cell6 : w4.cell? ⟨w2.heap.size, 2, none⟩ = some (.int .i64 th) := by
          have e := f4.hd (fun e => by have := (blk w2.heap.size e.symm).2; omega) (hp_new w2 (.cells #[.int .i64 tw, .int .i64 tk, .int .i64 th] 78))
          rw [cell_of e]; rfl
        obtain ⟨a6, c6, hv6, _⟩ := owns_shape o4
        subst hv6
        clear o4 f4 l4 blk O4 F4 hap4 A3
        go_wp2_with fail
        refine hca.out.mono ?_
        rintro e w5 ⟨rfl, f5, v5, o5, p5⟩
        have HR : Hid (RFd W w5 base c most L G vl vg now (.slice a6 (ks.length + 1) c6) (ks ++ [tk]) (keep th X) v5) := hide (by
          have hs := HH.out.shot.more hpos (by rw [Ht.out]; exact hn)
          rw [Ht.out] at hs
          refine ⟨hs, o5, HF4.out.trans f5 (fun i hi e => .inl e), ?_, fun g hg e => ?_, fun g hg => .inr (Nat.le_trans HF4.out.size (p5 g hg))⟩
          · have := owns_frame HO4.out f5 (fun g hg e => by have := (HA4.out g hg).2; omega)
            simpa using this
          · have := (HA4.out g hg).1
            have := p5 g e
            omega)
        clear f5 o5 p5 hca HO4
        go_wp2_with fail
        go_roundw
        case rel => exact ⟨ks ++ [tk], keep th X, v5, HR⟩
        case measure => simp [slen]; omega
      · have hn2 : now < tw := by omega
        have hf1 := hide (hf.out wr (Cl.refl _))
        go_wp2_with fail
        refine hf1.out.mono ?_
        rintro e w1 ⟨rfl, k1⟩
        have K1 := hide k1
        clear k1 hf1 hf
        go_wp2_with fail
        go_ret
        exact ⟨_, ks, X, _, rfl, HH.out.cl K1.out, .inr (by rw [Ht.out]; exact hn2)⟩
end
end Go.Proofs.Ytbmhhkpehilioaa
