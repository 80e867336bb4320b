/- The document's least free slot. -/
import Derived.Test.YtbmhhkpehilioaaRefShot
namespace Go.Proofs.Ytbmhhkpehilioaa
open Go.ChangeShapes Go.WideShapes Go.ChangeAt Go.RowKit

def fb (L : List Tmr) (i k : Nat) : Bool := (L.take k).all (fun t => decide (Int.tmod t.handle 4096 ≠ (i : Int)))
theorem fb_succ (L : List Tmr) (i k : Nat) (hk : k < L.length) : fb L i (k + 1) = (fb L i k && decide (Int.tmod (tg L k).handle 4096 ≠ (i : Int))) := by
  unfold fb
  have e : L[k]? = some (tg L k) := by simp [tg, List.getD, hk]
  rw [List.take_add_one, e, List.all_append]
  simp only [Option.toList_some, List.all_cons, List.all_nil, Bool.and_true]
def freeAt (L : List Tmr) (i : Nat) : Prop := ∀ t, t ∈ L → Int.tmod t.handle 4096 ≠ (i : Int)
theorem fb_all (L : List Tmr) (i : Nat) : fb L i L.length = true ↔ freeAt L i := by
  unfold fb freeAt
  rw [List.take_length, List.all_eq_true]
  simp only [decide_eq_true_eq]

section
variable {W W' : World} {base c : Nat} {most : Int} {L : List Tmr} {G : List Int} {vl vg : Value}
theorem RObj.setG (h : RObj W base c most L G vl vg) {V : World} {vg' : Value} {G' : List Int} (hF : Fr (fun k => some k = vg.ownBlock) W V) (ho : V.ownsRow base 3 1 vg' G'.length (G'.map fun x => Value.int .i64 x)) (hl : vg'.ownBlock = vg.ownBlock ∨ ∃ g, vg'.ownBlock = some g ∧ W.heap.size ≤ g) :
    RObj (V.setCell ⟨c, 2, none⟩ vg') base c most L G' vl vg' := by
  have hV := hF.hd (fun e => h.g0 e.symm) h.hd
  have hc := h.lt
  have hd' : vg'.ownBlock ≠ some c := by
    intro e
    rcases hl with hl | ⟨g, hl, hg⟩
    · exact h.g0 (hl ▸ e)
    · rw [e] at hl; simp at hl; omega
  refine ⟨hp_set hV 2 vg', h.bb, ?_, owns_frame ho (Fr.set V c 2 vg') (fun g hg e => hd' (by rw [hg, e])), h.l0, hd', fun k hk e => ?_⟩
  · exact (h.l.frame hF (fun g hg e => h.lg g hg e.symm)).frame (Fr.set V c 2 vg') (fun g hg e => h.l0 (by rw [hg, e]))
  · rcases hl with hl | ⟨g, hl, hg⟩
    · exact h.lg k hk (hl ▸ e)
    · rw [e] at hl; simp at hl; have := (h.l.block hk).2; omega

set_option maxHeartbeats 2000000 in
theorem rslot_any (h : RObj W base c most L G vl vg) (hl : L.length ≤ 8192) (hG : G.length ≤ 8192) :
    Calls Try.prog 38 #[.pointer (some ⟨c, 0, none⟩)] W fun e w' => ∃ i : Nat, e = .returned (.int .i64 (i : Int)) ∧ (∀ j, j < i → ¬ freeAt L j) ∧
      ((i < G.length ∧ freeAt L i ∧ Cl W w') ∨ (i = G.length ∧ ∃ vg', RObj w' base c most L (G ++ [0]) vl vg' ∧ Fr (fun k => k = c ∨ some k = vg.ownBlock) W w' ∧ (vg'.ownBlock = vg.ownBlock ∨ ∃ g, vg'.ownBlock = some g ∧ W.heap.size ≤ g))) := by
  have c1 := h.c1
  have c2 := h.c2
  obtain ⟨a, cap, hv, _⟩ := h.l.shape
  obtain ⟨ag, cg, hvg, _⟩ := owns_shape h.g
  have HO := hide h
  subst hv hvg
  clear h
  go_enter Try.func38, Try.ntmps38
  go_wp2_with fail
  go_loopw [12] (fun v wr => ∃ i : Nat, i ≤ G.length ∧ v = .int .i64 (i : Int) ∧ Hid (Cl W wr ∧ ∀ j, j < i → ¬ freeAt L j)) (fun v _ => G.length - (intOf v).toNat)
  case atStart => exact ⟨0, Nat.zero_le _, rfl, hide ⟨Cl.refl _, fun j hj => by omega⟩⟩
  case round =>
    obtain ⟨i, hi, rfl, HI⟩ := hrel
    by_cases hil : i < G.length
    · have d1 := HI.out.1.cell c1
      go_wp2_with fail
      go_loopw [4, 20] (fun u v ws => ∃ k : Nat, k ≤ L.length ∧ v = .int .i64 (k : Int) ∧ u = .bool (fb L i k) ∧ Hid (Cl wr ws)) (fun _ v _ => L.length - (intOf v).toNat)
      case atStart => exact ⟨0, Nat.zero_le _, rfl, rfl, hide (Cl.refl _)⟩
      case round =>
        obtain ⟨k, hk, rfl, rfl, HK⟩ := hrel
        by_cases hkl : k < L.length
        · obtain ⟨g, cap2, hv, -, hg, e0, e1, e2⟩ := (HO.out.l.frame (HI.out.1.trans HK.out).out (fun _ _ x => x)).at k hkl
          simp only [Value.slice.injEq] at hv
          obtain ⟨rfl, -, rfl⟩ := hv
          have hfs := hide (fb_succ L i k hkl)
          obtain ⟨t, Ht⟩ : ∃ t, Hid (tg L k = t) := ⟨_, hide rfl⟩
          rw [Ht.out] at e0 e1 e2 hfs
          obtain ⟨tw, tk, th⟩ := t
          dsimp only at e0 e1 e2 hfs
          obtain ⟨f, Hf⟩ : ∃ f, Hid (fb L i k = f) := ⟨_, hide rfl⟩
          rw [Hf.out] at hfs
          rw [Hf.out]
          obtain ⟨m, Hm⟩ : ∃ m, Hid (Int.tmod th 4096 = m) := ⟨_, hide rfl⟩
          rw [Hm.out] at hfs
          have hmm : Int.tmod th 4096 = m := Hm.out
          rcases f with _ | _
          · rw [Bool.false_and] at hfs
            go_wp2_with fail
            go_roundw
            case rel => exact ⟨k + 1, by omega, by go_num, by rw [hfs.out], hide (HK.out.trans (Fr.alloc _ _ _))⟩
            case measure => simp [intOf]; omega
          · rw [Bool.true_and] at hfs
            by_cases hmi : m = (i : Int)
            · subst hmi
              have hfs2 : Hid (fb L i (k + 1) = false) := hide (by rw [hfs.out]; simp)
              go_wp2_with fail
              go_roundw
              case rel => exact ⟨k + 1, by omega, by go_num, by rw [hfs2.out], hide (HK.out.trans (Fr.alloc _ _ _))⟩
              case measure => simp [intOf]; omega
            · have hfs2 : Hid (fb L i (k + 1) = true) := hide (by rw [hfs.out]; simp [hmi])
              have hne : (m != (i : Int)) = true := by simp [hmi]
              clear hmi
              go_wp2_with fail
              go_roundw
              case rel => exact ⟨k + 1, by omega, by go_num, by rw [hfs2.out], hide (HK.out.trans (Fr.alloc _ _ _))⟩
              case measure => simp [intOf]; omega
        · have ek : k = L.length := by omega
          subst ek
          have hfa := hide (fb_all L i)
          obtain ⟨f, Hf⟩ : ∃ f, Hid (fb L i L.length = f) := ⟨_, hide rfl⟩
          rw [Hf.out] at hfa
          rw [Hf.out]
          rcases f with _ | _
          · go_wp2_with fail
            go_roundw
            case rel => exact ⟨i + 1, by omega, by go_num, hide ⟨HI.out.1.trans HK.out, fun j hj => by
              by_cases e : j = i
              · subst e; exact fun hx => by have := hfa.out.2 hx; simp at this
              · exact HI.out.2 j (by omega)⟩⟩
            case measure => simp [intOf]; omega
          · go_wp2_with fail
            go_ret
            exact ⟨i, rfl, HI.out.2, .inl ⟨hil, hfa.out.1 trivial, HI.out.1.trans HK.out⟩⟩
    · have ei : i = G.length := by omega
      subst ei
      have HO2 := hide (HO.out.cl HI.out.1)
      have d2 := HO2.out.c2
      have hbb : base ≤ wr.heap.size := by have := HO2.out.bb; have := HO2.out.lt; omega
      go_wp2_with (at_builtin; apply Hid.out)
      unfold Hid
      refine wpList_append_int rfl _ _ rfl wr base (.slice ag G.length cg) G.length _ 0 rfl rfl HO2.out.g (by omega) hbb ?_
      intro v2 w2 o2 f2 l2
      have hrow : w2.ownsRow base 3 1 v2 (G ++ [0]).length ((G ++ [0]).map fun x => Value.int .i64 x) := by simpa using o2
      have O3 := hide (HO2.out.setG f2 hrow l2)
      have hd2 := f2.hd (fun e => HO2.out.g0 e.symm) HO2.out.hd
      have y2 : w2.frozen? ⟨c, 2, none⟩ = false := frozen_of hd2 2
      have cc2 : w2.cell? ⟨c, 2, none⟩ = some _ := (cell_of hd2 2).trans rfl
      have F2 := hide f2
      have L2 := hide l2
      obtain ⟨a2, b2, hv2, _⟩ := owns_shape o2
      subst hv2
      clear o2 f2 l2 hrow hd2
      go_wp2_with fail
      go_ret
      refine ⟨G.length, ret_int (by simp), HI.out.2, .inr ⟨rfl, _, O3.out, ?_, ?_⟩⟩
      · exact (HI.out.1.out.mono (T := fun k => k = c ∨ some k = (Value.slice ag G.length cg).ownBlock) (fun _ _ x => x.elim)).trans ((F2.out.mono (T := fun k => k = c ∨ some k = (Value.slice ag G.length cg).ownBlock) (fun _ _ x => .inr x)).trans (Fr.set _ c 2 _) (fun _ _ x => .inl x)) (fun _ _ x => x)
      · rcases L2.out with e | ⟨g, e, hg⟩
        · exact .inl e
        · exact .inr ⟨g, e, Nat.le_trans HI.out.1.out.size hg⟩
end
end Go.Proofs.Ytbmhhkpehilioaa
