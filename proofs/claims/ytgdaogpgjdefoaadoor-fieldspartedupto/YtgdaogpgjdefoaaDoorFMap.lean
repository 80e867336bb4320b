/- Names that are left out, as keys of a map; fields without them. -/
import Derived.Test.YtgdaogpgjdefoaaDoorFHas
import Derived.Maps.OwnSet
namespace Go.Proofs.YtgdaogpgjdefoaaDoor
open Go.ChangeShapes Go.WideShapes Go.ChangeAt Go.RowKit Go.Maps

theorem lawK : Keyed Tryd.prog 9 := string_keyed Tryd.underlying9
theorem zeroU (w : World) : (zeroValue 61).run Tryd.prog w = .ok (.agg #[]) w := by kernel_rfl
theorem keyS {s : ByteArray} (h : s.size ≤ maxLen) : keyOf Tryd.prog 9 (.string s) = some (.string s.data.toList) := Go.WideMaps.keyOf_string_mk Tryd.underlying9 h
/-- Block b is a map whose keys are the texts of S. -/
def Names (W : World) (b : Nat) (S : List ByteArray) : Prop := ∃ (n : Nat) (D : DataW Unit), W.ownsMap Tryd.prog 9 unitElem b n D ∧ n ≤ S.length ∧ ∀ s : ByteArray, s.size ≤ maxLen → Maps.has D (.string s.data.toList) = memB s S
theorem Names.made (w : World) : Names (w.alloc (.map #[] 0)) w.heap.size [] := ⟨0, .map [], World.ownsMap_made w _ _ _, Nat.le_refl _, fun _ _ => rfl⟩
theorem Names.lt {W : World} {b : Nat} {S : List ByteArray} (h : Names W b S) : b < W.heap.size := by
  obtain ⟨n, D, h, _⟩ := h
  exact h.lt
theorem Names.frame {W W' : World} {b : Nat} {S : List ByteArray} (h : Names W b S) (hb : W'.heap[b]? = W.heap[b]?) : Names W' b S := by
  obtain ⟨n, D, ⟨es, clock, h1, r⟩, h2⟩ := h
  exact ⟨n, D, ⟨es, clock, hb.trans h1, r⟩, h2⟩
theorem Names.below {W W' : World} {b : Nat} {S : List ByteArray} (h : Names W b S) (hb : Below W.heap.size W W') : Names W' b S := h.frame (hb.block b h.lt)
theorem Names.look {W : World} {b : Nat} {S : List ByteArray} (h : Names W b S) {s : ByteArray} (hs : s.size ≤ maxLen) : (Instr.lookup 58 (.map (some b)) (.string s) true).run Tryd.prog W = .ok (.tuple #[.agg #[], .bool (memB s S)]) W := by
  obtain ⟨n, D, ho, _, hh⟩ := h
  obtain ⟨v, ps, hr, hv⟩ := ho.look_ok lawK Tryd.underlying58 (zeroU W) unitElem_mk (keyS hs)
  obtain ⟨rfl, _⟩ := unitElem_inv hv
  rw [hr, hh s hs]
theorem memB_cons (s t : ByteArray) (S : List ByteArray) : memB s (t :: S) = (decide (t = s) || memB s S) := by simp [memB]
theorem data_inj {a b : ByteArray} (h : a.data.toList = b.data.toList) : a = b := by
  cases a; cases b; simp only [ByteArray.mk.injEq]; exact Array.toList_inj.1 h
theorem Names.put {W : World} {b : Nat} {S : List ByteArray} (h : Names W b S) {s : ByteArray} (hs : s.size ≤ maxLen) (hl : S.length < maxLen) :
    ∃ W', (Instr.mapUpdate 58 (.map (some b)) (.string s) (.agg #[])).run Tryd.prog W = .ok () W' ∧ Names W' b (s :: S) ∧ W.grownBy W' (some b) := by
  obtain ⟨n, D, ho, hn, hh⟩ := h
  obtain ⟨W', hr, ho', ht⟩ := ho.store lawK Tryd.underlying58 (Nat.lt_of_le_of_lt hn hl) (keyS hs) unitElem_mk
  refine ⟨W', hr, ⟨n + 1, _, ho', by simp; omega, fun t ht2 => ?_⟩, ht.grown⟩
  rw [memB_cons]
  by_cases he : s = t
  · subst he
    rw [decide_eq_true rfl, Maps.has_put_same ho.isMap (by simp [WideAt.IsKeyLit])]
    rfl
  · rw [decide_eq_false he, Maps.has_put_other (fun e => he (data_inj (by simpa using e.symm))), hh t ht2]
    rfl
/-- How the map mv tells names: whatever is made meanwhile. -/
def MapIs (W : World) (mv : Value) (S : List ByteArray) : Prop := ∀ W', Below W.heap.size W W' → ∀ s : ByteArray, s.size ≤ maxLen → (Instr.lookup 58 mv (.string s) true).run Tryd.prog W' = .ok (.tuple #[.agg #[], .bool (memB s S)]) W'
theorem MapIs.below {W W' : World} {mv : Value} {S : List ByteArray} (h : MapIs W mv S) (hb : Below W.heap.size W W') : MapIs W' mv S := fun V hV s hs => h V (hb.trans (hV.mono hb.size)) s hs
theorem MapIs.of {W : World} {b : Nat} {S : List ByteArray} (h : Names W b S) : MapIs W (.map (some b)) S := fun _ hV _ hs => (h.below hV).look hs
theorem MapIs.nil (W : World) : MapIs W (.map none) [] := fun V _ s hs => by
  rw [Maps.look_nil true lawK Tryd.underlying58 (zeroU V) (keyS hs)]
  rfl
set_option maxHeartbeats 1000000 in
theorem key_any (n : ByteArray) (w : World) (hn : n.size ≤ maxLen) :
    Calls Tryd.prog 44 #[.string n] w fun e w' => ∃ b, e = .returned (.map (some b)) ∧ Names w' b [lowS n] ∧ Below w.heap.size w w' := by
  have hmm := @run_makeMap Tryd.prog
  have HL := hide (fun W => lower_any n W hn)
  have hz : (lowS n).size ≤ maxLen := by rw [lowS_size]; exact hn
  have HZ := hide hz
  clear hz hn
  generalize lowS n = s at HL HZ ⊢
  go_enter Tryd.func44, Tryd.ntmps44
  go_wp2_with fail
  have N0 := hide (Names.made w)
  have B0 := hide ((Below.refl _ w).alloc (Nat.le_refl _) (.map #[] 0))
  generalize w.alloc (.map #[] 0) = x at N0 B0 ⊢
  refine (HL.out x).mono ?_
  rintro e w1 ⟨rfl, b1⟩
  have N1 := hide (N0.out.below b1)
  have B1 := hide (B0.out.trans (b1.mono B0.out.size))
  clear N0 B0 b1
  obtain ⟨w2, hrun, hN, hG⟩ := N1.out.put HZ.out (by unfold maxLen; decide)
  have N2 := hide hN
  have B2 := hide (B1.out.grown hG B1.out.size (fun j hj => by cases hj; exact Nat.le_refl _))
  clear hN hG N1 B1
  go_wp2
  go_ret
  exact ⟨_, rfl, N2.out, B2.out⟩
def dropS (A : List (ByteArray × ByteArray)) (S : List ByteArray) : List (ByteArray × ByteArray) := A.filter fun f => !memB (lowS f.1) S
theorem dropS_snoc (A : List (ByteArray × ByteArray)) (S : List ByteArray) (k : Nat) (hk : k < A.length) (f : ByteArray × ByteArray) (he : A[k] = f) : dropS (A.take (k + 1)) S = if memB (lowS f.1) S then dropS (A.take k) S else dropS (A.take k) S ++ [f] := by
  rw [take_snocF A k hk, he]
  unfold dropS
  rw [List.filter_append]
  cases h : memB (lowS f.1) S with
  | true => rw [if_pos rfl, List.filter_cons_of_neg (by rw [h]; simp)]; simp
  | false => rw [if_neg (by simp), List.filter_cons_of_pos (by rw [h]; rfl)]; simp
theorem dropS_len (A : List (ByteArray × ByteArray)) (S : List ByteArray) (k : Nat) : (dropS (A.take k) S).length ≤ A.length := by
  unfold dropS
  exact Nat.le_trans (List.length_filter_le _ _) (by rw [List.length_take]; omega)
set_option maxHeartbeats 4000000 in
theorem without_any (w : World) (l mv : Value) (A : List (ByteArray × ByteArray)) (S : List ByteArray) (hA : Flds w l A) (hs : Sm A) (hM : MapIs w mv S) :
    Calls Tryd.prog 42 #[l, mv] w fun e w' => ∃ v, e = .returned v ∧ FRow w' w.heap.size v (dropS A S) ∧ Below w.heap.size w w' := by
  obtain ⟨a0, c0, rfl, hc0, hcells⟩ := hA
  have HF := hide hcells
  have HS := hide hs
  have hl : A.length ≤ 1048576 := hs.1
  clear hcells hs hc0
  have HM := hide hM
  clear hM
  go_enter Tryd.func42, Tryd.ntmps42
  go_wp2
  go_loopw [12, 5] (fun i v wr => ∃ (k : Nat) (O : List (ByteArray × ByteArray)), k ≤ A.length ∧ i = .int .i64 k ∧ O.length ≤ A.length ∧ Hid (dropS (A.take k) S = O) ∧ Hid (FRow wr w.heap.size v O) ∧ Hid (Below w.heap.size w wr)) (fun i _ _ => A.length - (intOf i).toNat)
  case atStart => exact ⟨0, [], Nat.zero_le _, rfl, Nat.zero_le _, hide rfl, hide (FRow.nil _ _), hide (Below.refl _ _)⟩
  case round =>
    obtain ⟨k, O, hk, rfl, hO, HO, HR, HB⟩ := hrel
    obtain ⟨a6, c6, rfl, _, _⟩ := HR.out.shape
    by_cases hlt : k < A.length
    · have HNX := hide (fun f he => dropS_snoc A S k hlt f he)
      have HLN := hide (dropS_len A S (k + 1))
      obtain ⟨g1, o1, rfl, hgl, q1, q2⟩ := HF.out k hlt
      obtain ⟨z1, z2⟩ := HS.out.at k hlt
      obtain ⟨fa, fb, hf⟩ : ∃ fa fb, A[k] = (fa, fb) := ⟨_, _, rfl⟩
      rw [hf] at q1 q2 z1 z2
      have HE := hide hf
      clear hf
      have BW := hide (HB.out)
      have r1 : wr.cell? ⟨g1, o1 + k * 2, none⟩ = some (.string fa) := (BW.out.cell (p := ⟨g1, o1 + k * 2, none⟩) hgl).trans q1
      have r2 : wr.cell? ⟨g1, o1 + k * 2 + 1, none⟩ = some (.string fb) := (BW.out.cell (p := ⟨g1, o1 + k * 2 + 1, none⟩) hgl).trans q2
      clear q1 q2 hgl
      go_upto_region 5 with fail
      have HB2 := hide (HB.out.alloc HB.out.size (.cells #[.string fa, .string fb] 43))
      have HR2 := hide (HR.out.below ((Below.refl _ wr).alloc (Nat.le_refl _) (.cells #[.string fa, .string fb] 43)))
      have HD := hide (hp_new wr (.cells #[.string fa, .string fb] 43))
      clear r1 r2 BW HB HR
      generalize wr.alloc (.cells #[.string fa, .string fb] 43) = x at HB2 HR2 HD ⊢
      generalize wr.heap.size = b at HD ⊢
      have d0 : x.cell? ⟨b, 0, none⟩ = some (.string fa) := cell_at HD.out 0
      have d1 : x.cell? ⟨b, 1, none⟩ = some (.string fb) := cell_at HD.out 1
      go_wp2_with fail
      refine (lower_any fa x (by unfold maxLen; omega)).mono ?_
      rintro e w2 ⟨rfl, bb⟩
      have HB3 := hide (HB2.out.trans (bb.mono HB2.out.size))
      have HR3 := hide (HR2.out.below bb)
      have HD' := hide ((bb.block _ (lt_heap HD.out)).trans HD.out)
      clear HD d0 d1 HB2 HR2 bb
      have HD := HD'
      clear HD'
      have d0 : w2.cell? ⟨b, 0, none⟩ = some (.string fa) := cell_at HD.out 0
      have d1 : w2.cell? ⟨b, 1, none⟩ = some (.string fb) := cell_at HD.out 1
      have HX := hide (HNX.out (fa, fb) HE.out)
      have hlk := HM.out w2 HB3.out (lowS fa) (by rw [lowS_size]; unfold maxLen; omega)
      change Hid (dropS (A.take (k + 1)) S = if memB (lowS fa) S then dropS (A.take k) S else dropS (A.take k) S ++ [(fa, fb)]) at HX
      generalize memB (lowS fa) S = mb at hlk HX
      generalize lowS fa = lf at hlk ⊢
      go_upto_region 6 with fail
      have HB4 := hide (HB3.out.alloc HB3.out.size (.cells #[] 61))
      have HR4 := hide (HR3.out.below ((Below.refl _ w2).alloc (Nat.le_refl _) (.cells #[] 61)))
      have HD4 := hide ((((Below.refl _ w2).alloc (Nat.le_refl _) (.cells #[] 61)).block _ (lt_heap HD.out)).trans HD.out)
      clear HB3 HR3 HD d0 d1 hlk
      generalize w2.alloc (.cells #[] 61) = w3 at HB4 HR4 HD4 ⊢
      have HD := HD4
      clear HD4
      have d0 : w3.cell? ⟨b, 0, none⟩ = some (.string fa) := cell_at HD.out 0
      have d1 : w3.cell? ⟨b, 1, none⟩ = some (.string fb) := cell_at HD.out 1
      cases mb with
      | true =>
        have HO2 : Hid (dropS (A.take (k + 1)) S = O) := hide (by rw [HX.out, if_pos rfl, HO.out])
        clear HX
        go_wp2
        exact ⟨⟨k + 1, O, by omega, by go_num, hO, HO2, HR4, HB4⟩, by simp [intOf]; omega⟩
      | false =>
        have HO2 : Hid (dropS (A.take (k + 1)) S = O ++ [(fa, fb)]) := hide (by rw [HX.out, if_neg (by decide), HO.out])
        have hO2 : (O ++ [(fa, fb)]).length ≤ A.length := by rw [← HO2.out]; exact HLN.out
        clear HX
        go_wp2_with fail
        refine (fclone_any fa fb w3 (by omega) (by omega)).mono ?_
        rintro e w4 ⟨rfl, bb⟩
        have HB5 := hide (HB4.out.trans (bb.mono HB4.out.size))
        have HR5 := hide (HR4.out.below bb)
        have HD' := hide ((bb.block _ (lt_heap HD.out)).trans HD.out)
        clear HD d0 d1 HB4 HR4 bb
        have HD := HD'
        clear HD'
        have d0 : w4.cell? ⟨b, 0, none⟩ = some (.string fa) := cell_at HD.out 0
        have d1 : w4.cell? ⟨b, 1, none⟩ = some (.string fb) := cell_at HD.out 1
        go_wp2_with (at_builtin; apply Hid.out)
        unfold Hid
        refine wpList_append_fld rfl _ _ rfl w4 w.heap.size (.slice a6 O.length c6) O fa fb rfl rfl HR5.out (by omega) HB5.out.size ?_
        intro v' w5 O' B'
        have O6 := hide O'
        have B6 := hide (HB5.out.trans B')
        clear O' B'
        go_wp2
        exact ⟨⟨k + 1, O ++ [(fa, fb)], by omega, by go_num, hO2, HO2, O6, B6⟩, by simp [intOf]; omega⟩
    · have HE : Hid (dropS A S = O) := hide (by rw [← HO.out, List.take_of_length_le (by omega)])
      go_wp2
      go_ret
      exact ⟨_, rfl, by rw [HE.out]; exact HR.out, HB.out⟩
end Go.Proofs.YtgdaogpgjdefoaaDoor
