/- ChainOwn returns true at every row of bytes and every number, and changes nothing that was there. -/
import Derived.Test.YtglhoihiaflmgabAny
import Derived.Deep.RegionHeld3
namespace Go.Proofs.Ytglhoihiaflmgab
open Go.ChangeShapes Go.WideShapes Go.ChangeAt Go.RowKit

theorem Fr.drew (S : Nat → Prop) (w : World) : Fr S w w.drew := ⟨rfl, rfl, rfl, Nat.le_refl _, fun _ _ _ => rfl⟩

theorem Chain.frame2 {S : Nat → Prop} {w w' : World} {b r bound high low : Nat} {L : List Int} {stop : Bool} (h : Chain w b r bound high low L stop) (f : Fr S w w') (hb : ¬ S b) (hr : r < w.heap.size → ¬ S r) : Chain w' b r bound high low L stop := by
  refine ⟨h.marks, ?_⟩
  rcases h.body with ⟨k, e⟩ | ⟨R, st, k⟩
  · exact .inl ⟨f.hd hb k, e⟩
  · exact .inr ⟨R, st, k.frame f hb (hr (Array.getElem?_eq_some_iff.1 k.ring).1)⟩

theorem own_part {W W' : World} {base cap k : Nat} {a : Option Addr} {X : List Int} (h : Own W base (.slice a X.length cap) X) (hk : k ≤ X.length) (hW : ∀ g, (Value.slice a X.length cap).ownBlock = some g → W'.heap[g]? = W.heap[g]?) :
    (convert 33 9 (.slice a k cap)).run Try.prog W' = .ok (.string (strOfNums (X.take k))) W' := by
  rcases h.2 with ⟨e, h0⟩ | ⟨g, cap', cur, e, _, hg, hc, _, _, ht⟩
  · have e2 : X = [] := List.eq_nil_of_length_eq_zero h0
    subst e2
    simp only [List.length_nil, Value.slice.injEq] at e hk
    obtain ⟨rfl, _, rfl⟩ := e
    have e3 : k = 0 := by omega
    subst e3
    exact (Sl.nil W').text
  · simp only [Value.slice.injEq] at e
    obtain ⟨rfl, _, rfl⟩ := e
    have el : (X.take k).length = k := by simp; omega
    have h := Sl.row (W := W') (cap := cap) (l := X.take k) ((hW g rfl).trans hg) (by rw [el]; omega) (by
      rw [el, List.map_take, ← ht, List.take_take]
      congr 1; omega)
    rw [el] at h
    exact h.text

theorem bs_set (l : List Int) (j : Nat) (y : Int) : (bs l).setIfInBounds j (.int .u8 y) = bs (l.set j y) := by
  unfold bs
  simp [List.map_set]

theorem Fr.set (w : World) (b i : Nat) (v : Value) : Fr (fun k => k = b) w (w.setCell ⟨b, i, none⟩ v) :=
  ⟨rfl, rfl, rfl, by simp, fun k _ hk => hp_set_other w b k i v hk⟩

set_option maxRecDepth 100000 in
set_option maxHeartbeats 4000000 in
theorem own_walk (a : Option Addr) (cap : Nat) (X : List Int) (n : Int) (w : World) (hs : Sl w (.slice a X.length cap) X) (hsl : Lies (.slice a X.length cap) (fun i => i < w.heap.size)) (hlen : X.length ≤ 140737488351232) :
    Calls Try.prog 5 #[.slice a X.length cap, .int .i64 n] w fun e w' => e = .returned (.bool true) ∧ Below w.heap.size w w' := by
  have HS := hide hs
  have HL := hide hsl
  clear hs hsl
  go_enter Try.func5, Try.ntmps5
  go_wp2_with fail
  refine (new_yes 1000 1000 0 ⟨by omega, by omega, by omega, by omega⟩ _).mono ?_
  rintro e w1 ⟨rfl, F1, z1, C1⟩
  have C2 := hide C1
  have F2 := hide F1
  have Z1 := hide z1
  clear C1 F1 z1
  have s1 : Hid (Sl w1 (.slice a X.length cap) X) := hide (HS.out.cellsEq (fun b off n c e hn => F2.out.block b (HL.out b off n c e hn) (fun x => x)))
  go_wp2_with (at_builtin; refine wpList_append_bytes rfl _ _ rfl w1 w1.heap.size (.slice none 0 0) (.slice a X.length cap) [] X rfl rfl (Own.nil _ _) s1.out (by simp; omega) (Nat.le_refl _) ?_; intro v2 w2 O2 G2)
  rw [List.nil_append] at O2
  have F3 : Fr (fun _ => False) w1 w2 := ⟨G2.os, G2.tape, G2.output, G2.size, fun k hk _ => G2.block k hk (by simp [Value.ownBlock])⟩
  have hbl : Hid (∀ g, v2.ownBlock = some g → w.heap.size < g ∧ g < w2.heap.size) := hide (fun g hg => by have := O2.block hg; have := Z1.out; omega)
  have C3 : Hid (Chain w2 w.heap.size w.heap.size 1000 1000 0 [] false) := hide (C2.out.frame F3 (fun x => x) (fun x => x))
  have FF3 : Hid (Fr (fun _ => False) w w2) := hide (F2.out.trans F3 (fun _ _ x => x))
  have hz2 : w.heap.size < w2.heap.size := by have := F3.size; have := Z1.out; omega
  have O3 := hide O2
  have hX : Hid (kPut X 1000 0 ≤ 1000 ∧ kPut X 1000 0 ≤ X.length) := hide (by unfold kPut; omega)
  clear O2 G2 F3
  refine (put_any C3.out (.slice a X.length cap) X (HS.out.cellsEq (fun b off n c e hn => FF3.out.block b (HL.out b off n c e hn) (fun x => x))) (fun b off n c e hn => ⟨by have := HL.out b off n c e hn; omega, by have := HL.out b off n c e hn; omega, by have := HL.out b off n c e hn; omega⟩) (by omega)).mono ?_
  rintro e w3 ⟨rfl, F4, r3, C4, hr3⟩
  rw [List.length_nil, List.nil_append] at C4
  have CC4 := hide C4
  have FF4 : Hid (Fr (fun i => w.heap.size ≤ i) w w3) := hide ((FF3.out.mono (fun _ _ x => x.elim)).trans F4 (fun i hi x => by rcases x with x | x <;> omega))
  have hz3 : w2.heap.size ≤ w3.heap.size := F4.size
  have O4 : Hid (Own w3 w1.heap.size v2 X) := hide (O3.out.frame (fun g hg => F4.block g (hbl.out g hg).2 (fun x => by have := (hbl.out g hg).1; rcases x with x | x <;> omega)))
  clear C4 F4 O3 C3 FF3 hr3 C2 F2 s1
  obtain ⟨k, Hk⟩ : ∃ k, Hid (kPut X 1000 0 = k) := ⟨_, hide rfl⟩
  rw [Hk.out] at CC4 hX
  rw [List.length_nil, Hk.out]
  go_wp2_with fail
  refine (peek_any CC4.out n).mono ?_
  rintro e w4 ⟨v4, rfl, F5, -, -, hv4⟩
  obtain ⟨K, HK⟩ : ∃ K, Hid (kOf n (X.take k).length = K) := ⟨_, hide rfl⟩
  rw [HK.out] at hv4
  obtain ⟨pa, hpa⟩ : ∃ pa, v4 = .slice pa K K ∧ (0 < K → pa = some ⟨w3.heap.size, 0, none⟩ ∧ w4.heap[w3.heap.size]? = some (.cells (bs ((X.take k).take K)) 5 (0, 0))) := by
    rcases hv4 with ⟨h1, h2, _⟩ | ⟨h1, _, h3⟩
    · exact ⟨none, by rw [h1, h2], fun h => by omega⟩
    · exact ⟨_, h1, fun _ => ⟨rfl, h3⟩⟩
  obtain ⟨hv, hpa⟩ := hpa
  subst hv
  have HP := hide hpa
  have Kb : K ≤ X.length ∧ ((X.take k).take K).length = K := by have := HK.out; unfold kOf at this; simp at this; simp; omega
  have Kb1 := Kb.1
  have Kb2 := hide Kb.2
  have F6 : Hid (Fr (fun _ => False) w3 w4) := hide F5
  have hz4 : w3.heap.size ≤ w4.heap.size := F5.size
  clear hpa hv4 F5 Kb
  go_wp2_with fail
  go_loopw [32] (fun i wr => ∃ j : Nat, j ≤ K ∧ i = .int .i64 j ∧ Hid (Fr (fun i => i = w3.heap.size) w3 wr) ∧ Hid (0 < K → ∃ l : List Int, l.length = K ∧ wr.heap[w3.heap.size]? = some (.cells (bs l) 5 (0, 0)))) (fun i _ => K - (intOf i).toNat)
  case atStart => exact ⟨0, Nat.zero_le _, rfl, hide (F6.out.mono (fun _ _ x => x.elim)), hide (fun h => ⟨_, Kb2.out, (HP.out h).2⟩)⟩
  case round =>
    obtain ⟨j, hj, rfl, HF, HR⟩ := hrel
    by_cases hlt : j < K
    · obtain ⟨l, hl, hrow⟩ := HR.out (by omega)
      obtain ⟨rfl, -⟩ := HP.out (by omega)
      have hc : wr.cell? ⟨w3.heap.size, j, none⟩ = some (.int .u8 (l.getD j 0)) := by rw [cell_of hrow, bs_at l j (by omega)]
      have hf : wr.frozen? ⟨w3.heap.size, j, none⟩ = false := frozen_of hrow j
      have RR := hide hrow
      have LL := hide hl
      generalize l.getD j 0 = x at hc
      clear hrow hl HR
      go_wp2
      go_roundw
      case rel =>
        refine ⟨j + 1, by omega, by go_num, hide (HF.out.trans (Fr.set _ _ _ _) (fun _ _ x => x)), hide (fun _ => ⟨l.set j ((x + 1) % 256), by simp [LL.out], ?_⟩)⟩
        rw [← bs_set]
        exact hp_set RR.out j _
      case measure => simp [intOf]; omega
    · have ej : j = K := by omega
      subst ej
      clear HR HP F6 HK
      have CX0 : Chain wr w.heap.size r3 1000 1000 0 (X.take k) (putStop false 1000 0 k) := CC4.out.frame2 HF.out (by omega) (by omega)
      have CX := hide (CX0.frame (Fr.drew (fun _ => False) _) (fun x => x) (fun x => x))
      have FW : Hid (Fr (fun i => w.heap.size ≤ i) w wr) := hide (FF4.out.trans HF.out (fun i hi x => by omega))
      have hzr : w3.heap.size ≤ wr.heap.size := HF.out.size
      have O5 : Own wr w1.heap.size v2 X := O4.out.frame (fun g hg => HF.out.block g (by have := (hbl.out g hg).2; omega) (by have := (hbl.out g hg).2; omega))
      obtain ⟨a2, cap2, hv2, hc2, -, -⟩ := O5.sl
      subst hv2
      have s5 : Sl wr (.slice a X.length cap) X := HS.out.cellsEq (fun b off n c e hn => FW.out.block b (HL.out b off n c e hn) (by have := HL.out b off n c e hn; omega))
      have kn : k ≤ X.length := hX.out.2
      have k1 : (k : Int) ≤ X.length := by omega
      have kn2 : k ≤ cap2 := by omega
      have k2 : (k : Int) ≤ cap2 := by omega
      have e1 : Hid (kOf 1000 (X.take k).length = k) := hide (by have := hX.out; unfold kOf; simp; omega)
      have Sw : Hid (∀ W : World, Fr (fun i => i = w.heap.size) wr.drew W → (convert 33 9 (.slice a2 X.length cap2)).run Try.prog W = .ok (.string (strOfNums X)) W ∧ (convert 33 9 (.slice a X.length cap)).run Try.prog W = .ok (.string (strOfNums X)) W ∧ (convert 33 9 (.slice a2 k cap2)).run Try.prog W = .ok (.string (strOfNums (X.take k))) W) := hide (by
        intro W hW
        have hg : ∀ g, (Value.slice a2 X.length cap2).ownBlock = some g → W.heap[g]? = wr.heap[g]? := fun g hg => hW.block g (by have := (hbl.out g hg).2; show g < wr.heap.size; omega) (by have := (hbl.out g hg).1; omega)
        exact ⟨(O5.frame hg).sl.text, (s5.cellsEq (W' := W) (fun b off n c e hn => hW.block b (by have := HL.out b off n c e hn; show b < wr.heap.size; omega) (by have := HL.out b off n c e hn; omega))).text, own_part O5 kn hg⟩)
      obtain ⟨sX, HsX⟩ : ∃ s, Hid (strOfNums X = s) := ⟨_, hide rfl⟩
      obtain ⟨sK, HsK⟩ : ∃ s, Hid (strOfNums (X.take k) = s) := ⟨_, hide rfl⟩
      rw [HsX.out, HsK.out] at Sw
      have t1 := Sw.out wr.drew (Fr.refl _ _)
      clear s5 O5 CX0
      go_wp2_with fail
      refine wp_region_noPanic ?_
      refine wp_region_held_drew (S := fun W => (convert 33 9 (.slice a2 X.length cap2)).run Try.prog W = .ok (.string sX) W ∧ (convert 33 9 (.slice a X.length cap)).run Try.prog W = .ok (.string sX) W ∧ (convert 33 9 (.slice a2 k cap2)).run Try.prog W = .ok (.string sK) W) (by kernel_rfl) t1 (fun hHeld => ?_)
      refine wpAnyH_take (i := 0) (v := ?_) rfl (by kernel_rfl) (by kernel_rfl) (by kernel_rfl) (fun _ _ _ h => h) (Or.inl ⟨by rfl, ?_⟩) (by assumption) ?_
      rotate_left
      · (intro w hSw; (try dsimp only at hSw); go_simp; try with_reducible rfl)
      simp only [List.getElem_toArray, List.getElem_cons_zero, Act.put, List.setIfInBounds_toArray, List.set_cons_zero, List.set_cons_succ]
      refine wpAnyH_take (i := 2) (v := ?_) rfl (by kernel_rfl) (by kernel_rfl) (by kernel_rfl) (fun _ _ _ h => h) (Or.inl ⟨by rfl, ?_⟩) (by assumption) ?_
      rotate_left
      · (intro w hSw; (try dsimp only at hSw); go_simp; try with_reducible rfl)
      simp only [List.getElem_toArray, List.getElem_cons_zero, List.getElem_cons_succ, Act.put, List.setIfInBounds_toArray, List.set_cons_zero, List.set_cons_succ]
      refine wpAnyH_take (i := 1) (v := ?_) rfl (by kernel_rfl) (by kernel_rfl) (by kernel_rfl) (fun _ _ _ h => h) (Or.inl ⟨by rfl, ?_⟩) (by assumption) ?_
      rotate_left
      · (intro w hSw; (try dsimp only at hSw); go_simp; try with_reducible rfl)
      simp only [List.getElem_toArray, List.getElem_cons_zero, List.getElem_cons_succ, Act.put, List.setIfInBounds_toArray, List.set_cons_zero, List.set_cons_succ]
      refine wpAnyH_take (i := 3) (v := ?_) rfl (by kernel_rfl) (by kernel_rfl) (by kernel_rfl) (fun _ _ _ h => h) (Or.inl ⟨by rfl, ?_⟩) (by assumption) ?_
      rotate_left
      · (intro w hSw; (try dsimp only at hSw); go_simp; try with_reducible rfl)
      simp only [List.getElem_toArray, List.getElem_cons_zero, List.getElem_cons_succ, Act.put, List.setIfInBounds_toArray, List.set_cons_zero, List.set_cons_succ]
      refine wpAnyH_take (i := 4) (v := ?_) rfl (by kernel_rfl) (by kernel_rfl) (by kernel_rfl) (fun _ _ _ h => h) (Or.inl ⟨by rfl, ?_⟩) (by assumption) ?_
      rotate_left
      · (intro w hSw; (try dsimp only at hSw); go_simp; try with_reducible rfl)
      simp only [List.getElem_toArray, List.getElem_cons_zero, List.getElem_cons_succ, Act.put, List.setIfInBounds_toArray, List.set_cons_zero, List.set_cons_succ]
      refine wpAnyH_take (i := 5) (v := ?_) rfl (by kernel_rfl) (by kernel_rfl) (by kernel_rfl) (fun _ _ _ h => h) (Or.inl ⟨by rfl, ?_⟩) (by assumption) ?_
      rotate_left
      · (intro w hSw; (try dsimp only at hSw); go_simp; try with_reducible rfl)
      simp only [List.getElem_toArray, List.getElem_cons_zero, List.getElem_cons_succ, Act.put, List.setIfInBounds_toArray, List.set_cons_zero, List.set_cons_succ]
      refine wpAnyH_take (i := 6) (v := ?_) rfl (by kernel_rfl) (by kernel_rfl) (by kernel_rfl) (fun _ _ _ h => h) (Or.inl ⟨by rfl, ?_⟩) (by assumption) ?_
      rotate_left
      · (intro w hSw; (try dsimp only at hSw); go_simp; try with_reducible rfl)
      simp only [List.getElem_toArray, List.getElem_cons_zero, List.getElem_cons_succ, Act.put, List.setIfInBounds_toArray, List.set_cons_zero, List.set_cons_succ]
      refine wpAnyH_take (i := 7) (v := ?_) rfl (by kernel_rfl) (by kernel_rfl) (by kernel_rfl) (fun _ _ _ h => h) (Or.inl ⟨by rfl, ?_⟩) (by assumption) ?_
      rotate_left
      · (intro w hSw; (try dsimp only at hSw); go_simp; try with_reducible rfl)
      simp only [List.getElem_toArray, List.getElem_cons_zero, List.getElem_cons_succ, Act.put, List.setIfInBounds_toArray, List.set_cons_zero, List.set_cons_succ]
      refine wpAnyH_take (i := 8) (v := ?_) rfl (by kernel_rfl) (by kernel_rfl) (by kernel_rfl) (fun _ _ _ h => h) (Or.inl ⟨by rfl, ?_⟩) (by assumption) ?_
      rotate_left
      · (intro w hSw; (try dsimp only at hSw); go_simp; try with_reducible rfl)
      simp only [List.getElem_toArray, List.getElem_cons_zero, List.getElem_cons_succ, Act.put, List.setIfInBounds_toArray, List.set_cons_zero, List.set_cons_succ]
      refine wpAnyH_take (i := 9) (v := ?_) rfl (by kernel_rfl) (by kernel_rfl) (by kernel_rfl) (fun _ _ _ h => h) (Or.inl ⟨by rfl, ?_⟩) (by assumption) ?_
      rotate_left
      · (intro w hSw; (try dsimp only at hSw); go_simp; try with_reducible rfl)
      simp only [List.getElem_toArray, List.getElem_cons_zero, List.getElem_cons_succ, Act.put, List.setIfInBounds_toArray, List.set_cons_zero, List.set_cons_succ]
      refine wpAnyH_take (i := 10) (v := ?_) rfl (by kernel_rfl) (by kernel_rfl) (by kernel_rfl) (fun _ _ _ h => h) (Or.inl ⟨by rfl, ?_⟩) (by assumption) ?_
      rotate_left
      · (intro w hSw; (try dsimp only at hSw); go_simp; try with_reducible rfl)
      simp only [List.getElem_toArray, List.getElem_cons_zero, List.getElem_cons_succ, Act.put, List.setIfInBounds_toArray, List.set_cons_zero, List.set_cons_succ]
      refine wpAnyH_take (i := 11) (v := ?_) rfl (by kernel_rfl) (by kernel_rfl) (by kernel_rfl) (fun _ _ _ h => h) (Or.inl ⟨by rfl, ?_⟩) (by assumption) ?_
      rotate_left
      · (intro w hSw; (try dsimp only at hSw); go_simp; try with_reducible rfl)
      simp only [List.getElem_toArray, List.getElem_cons_zero, List.getElem_cons_succ, Act.put, List.setIfInBounds_toArray, List.set_cons_zero, List.set_cons_succ]
      refine wpAnyH_take (i := 12) (v := ?_) rfl (by kernel_rfl) (by kernel_rfl) (by kernel_rfl) (fun _ _ _ h => h) (Or.inl ⟨by rfl, ?_⟩) (by assumption) ?_
      rotate_left
      · (intro w hSw; (try dsimp only at hSw); go_simp; try with_reducible rfl)
      simp only [List.getElem_toArray, List.getElem_cons_zero, List.getElem_cons_succ, Act.put, List.setIfInBounds_toArray, List.set_cons_zero, List.set_cons_succ]
      refine wpAnyH_take (i := 15) (v := ?_) rfl (by kernel_rfl) (by kernel_rfl) (by kernel_rfl) (fun _ _ _ h => h) (Or.inl ⟨by rfl, ?_⟩) (by assumption) ?_
      rotate_left
      · (intro w hSw; (try dsimp only at hSw); go_simp; try with_reducible rfl)
      simp only [List.getElem_toArray, List.getElem_cons_zero, List.getElem_cons_succ, Act.put, List.setIfInBounds_toArray, List.set_cons_zero, List.set_cons_succ]
      refine wpAnyH_take (i := 16) (v := ?_) rfl (by kernel_rfl) (by kernel_rfl) (by kernel_rfl) (fun _ _ _ h => h) (Or.inl ⟨by rfl, ?_⟩) (by assumption) ?_
      rotate_left
      · (intro w hSw; (try dsimp only at hSw); go_simp; try with_reducible rfl)
      simp only [List.getElem_toArray, List.getElem_cons_zero, List.getElem_cons_succ, Act.put, List.setIfInBounds_toArray, List.set_cons_zero, List.set_cons_succ]
      refine wpAnyH_take (i := 17) (v := ?_) rfl (by kernel_rfl) (by kernel_rfl) (by kernel_rfl) (fun _ _ _ h => h) (Or.inl ⟨by rfl, ?_⟩) (by assumption) ?_
      rotate_left
      · (intro w hSw; (try dsimp only at hSw); go_simp; try with_reducible rfl)
      simp only [List.getElem_toArray, List.getElem_cons_zero, List.getElem_cons_succ, Act.put, List.setIfInBounds_toArray, List.set_cons_zero, List.set_cons_succ]
      refine wpAnyH_take (i := 18) (v := ?_) rfl (by kernel_rfl) (by kernel_rfl) (by kernel_rfl) (fun _ _ _ h => h) (Or.inl ⟨by rfl, ?_⟩) (by assumption) ?_
      rotate_left
      · (intro w hSw; (try dsimp only at hSw); go_simp; try with_reducible rfl)
      simp only [List.getElem_toArray, List.getElem_cons_zero, List.getElem_cons_succ, Act.put, List.setIfInBounds_toArray, List.set_cons_zero, List.set_cons_succ]
      refine wpAnyH_ready (rs := [13]) (by kernel_rfl) (by simp) ?_
      refine AllReadyH.cons rfl (fun K hK => ?_) AllReadyH.nil
      go_simp
      refine (take_any CX.out 1000).mono ?_
      rintro e w6 ⟨v6, rfl, F6, S6, L6, C6⟩
      rw [e1.out, List.take_take, Nat.min_self] at S6
      have t6 := S6.text
      rw [HsK.out] at t6
      have u1 := (Sw.out w6 F6).1
      have u2 := (Sw.out w6 F6).2.1
      have u3 := (Sw.out w6 F6).2.2
      have FF6 := hide F6
      clear F6 S6 L6 C6
      go_wp2_with fail
      refine hK.out _ _ ⟨u1, u2, u3⟩ (fun hHeld => ?_)
      clear hK K
      try simp only [List.getElem_toArray, List.getElem_cons_zero, List.getElem_cons_succ, Act.put, List.setIfInBounds_toArray, List.set_cons_zero, List.set_cons_succ]
      refine wpAnyH_ready (rs := [14]) (by kernel_rfl) (by simp) ?_
      refine AllReadyH.cons rfl (fun K hK => ?_) AllReadyH.nil
      go_simp
      refine hK.out _ _ ⟨u1, u2, u3⟩ (fun hHeld => ?_)
      clear hK K
      try simp only [List.getElem_toArray, List.getElem_cons_zero, List.getElem_cons_succ, Act.put, List.setIfInBounds_toArray, List.set_cons_zero, List.set_cons_succ]
      refine wpAnyH_take (i := 19) (v := ?_) rfl (by kernel_rfl) (by kernel_rfl) (by kernel_rfl) (fun _ _ _ h => h) (Or.inl ⟨by rfl, ?_⟩) (by assumption) ?_
      rotate_left
      · (intro w hSw; (try dsimp only at hSw); go_simp; try with_reducible rfl)
      simp only [List.getElem_toArray, List.getElem_cons_zero, List.getElem_cons_succ, Act.put, List.setIfInBounds_toArray, List.set_cons_zero, List.set_cons_succ]
      refine wpAnyH_take (i := 20) (v := ?_) rfl (by kernel_rfl) (by kernel_rfl) (by kernel_rfl) (fun _ _ _ h => h) (Or.inl ⟨by rfl, ?_⟩) (by assumption) ?_
      rotate_left
      · (intro w hSw; (try dsimp only at hSw); go_simp; try with_reducible rfl)
      simp only [List.getElem_toArray, List.getElem_cons_zero, List.getElem_cons_succ, Act.put, List.setIfInBounds_toArray, List.set_cons_zero, List.set_cons_succ]
      refine wpAnyH_take (i := 21) (v := ?_) rfl (by kernel_rfl) (by kernel_rfl) (by kernel_rfl) (fun _ _ _ h => h) (Or.inl ⟨by rfl, ?_⟩) (by assumption) ?_
      rotate_left
      · (intro w hSw; (try dsimp only at hSw); go_simp; try with_reducible rfl)
      simp only [List.getElem_toArray, List.getElem_cons_zero, List.getElem_cons_succ, Act.put, List.setIfInBounds_toArray, List.set_cons_zero, List.set_cons_succ]
      refine wpAnyH_ready (rs := [22]) (by kernel_rfl) (by simp) ?_
      refine AllReadyH.cons rfl (fun K hK => ?_) AllReadyH.nil
      go_simp
      refine (speaks_any _).mono ?_
      rintro e w7 ⟨rfl, F7⟩
      have FF7 := hide F7
      have u4 := Sw.out w7 (FF6.out.trans F7 (fun _ _ x => x.elim))
      clear F7
      go_wp2_with fail
      refine hK.out _ _ u4 (fun hHeld => ?_)
      clear hK K
      try simp only [List.getElem_toArray, List.getElem_cons_zero, List.getElem_cons_succ, Act.put, List.setIfInBounds_toArray, List.set_cons_zero, List.set_cons_succ]
      refine wpAnyH_take (i := 23) (v := ?_) rfl (by kernel_rfl) (by kernel_rfl) (by kernel_rfl) (fun _ _ _ h => h) (Or.inl ⟨by rfl, ?_⟩) (by assumption) ?_
      rotate_left
      · (intro w hSw; (try dsimp only at hSw); go_simp; try with_reducible rfl)
      simp only [List.getElem_toArray, List.getElem_cons_zero, List.getElem_cons_succ, Act.put, List.setIfInBounds_toArray, List.set_cons_zero, List.set_cons_succ]
      refine wpAnyH_take (i := 24) (v := ?_) rfl (by kernel_rfl) (by kernel_rfl) (by kernel_rfl) (fun _ _ _ h => h) (Or.inl ⟨by rfl, ?_⟩) (by assumption) ?_
      rotate_left
      · (intro w hSw; (try dsimp only at hSw); go_simp; try with_reducible rfl)
      simp only [List.getElem_toArray, List.getElem_cons_zero, List.getElem_cons_succ, Act.put, List.setIfInBounds_toArray, List.set_cons_zero, List.set_cons_succ]
      refine wpAnyH_done (by kernel_rfl) ?_ _
      refine NoPanic.normal ?_
      go_wp2
      go_ret
      refine ⟨rfl, ?_⟩
      have A1 : Fr (fun i => w.heap.size ≤ i) w w7 := ((FW.out.trans (Fr.drew (fun i => w.heap.size ≤ i) _) (fun _ _ x => x)).trans FF6.out (fun i _ x => by omega)).trans FF7.out (fun _ _ x => x.elim)
      exact A1.below (Nat.le_refl _) (fun k hk x => by omega)
end Go.Proofs.Ytglhoihiaflmgab
