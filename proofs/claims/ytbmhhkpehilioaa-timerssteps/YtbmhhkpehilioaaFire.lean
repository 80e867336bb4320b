/- Fire takes all away that are due, in their order; New makes timers without any. -/
import Derived.Test.YtbmhhkpehilioaaCalls
namespace Go.Proofs.Ytbmhhkpehilioaa
open Go.ChangeShapes Go.WideShapes Go.ChangeAt Go.RowKit

def slen : Value → Nat
  | .slice _ n _ => n
  | _ => 0
def keys (S : List Slot) (l : List Nat) : List Value := l.map fun i => Value.int .i64 (sg S i).key
section
variable {W wr : World} {base b most : Nat} {turns : Int} {S : List Slot} {D F : List Nat} {M : Nat → Prop}
theorem Tm.bound (h : Tm W base b most turns S D F M) : Tm W base b most turns S D F (fun k => M k ∧ k < W.heap.size) := by
  obtain ⟨vs, vd, vf, ho, hm⟩ := h.obj
  exact ⟨⟨vs, vd, vf, ho, fun k hk => ⟨hm k hk, (ho.mine_lt hk).2⟩⟩, h.inv⟩
theorem Kept.less {V U : World} {M M' N : Nat → Prop} (h : Kept V U M M') (hn : ∀ k, N k → M' k) : Kept V U M N := ⟨h.fr, fun k hk => h.more k (hn k hk)⟩
theorem Inv.rk_inj (h : Inv most turns S D F) (ht : turns ≤ 1125899906842624) {x y : Nat} (hx : x < S.length) (hy : y < S.length) (hne : x ≠ y) : rk S x ≠ rk S y := by
  have h1 := h.sl x hx
  have h2 := h.sl y hy
  have h3 := h.dis x y hx hy hne
  unfold rk
  omega

structure Fd (W wr : World) (base b most : Nat) (turns : Int) (S : List Slot) (D : List Nat) (M : Nat → Prop) (now : Int) (v : Value) (D' F' : List Nat) (M' : Nat → Prop) (fired : List Nat) : Prop where
  tm : Tm wr base b most turns S D' F' M'
  kept : Kept W wr M M'
  perm : (fired ++ D').Perm D
  sorted : fired.Pairwise (fun x y => rk S x < rk S y)
  due : ∀ x, x ∈ fired → (sg S x).when ≤ now
  cross : ∀ x, x ∈ fired → ∀ y, y ∈ D' → rk S x < rk S y
  row : wr.ownsRow W.heap.size 3 1 v fired.length (keys S fired)
  apart : ∀ g, v.ownBlock = some g → ¬ M' g
  lt : ∀ k, M' k → k < wr.heap.size

theorem Fd.cl {now : Int} {v : Value} {D' F' : List Nat} {M' : Nat → Prop} {fired : List Nat} {w2 : World} (h : Fd W wr base b most turns S D M now v D' F' M' fired) (hc : Cl wr w2) : Fd W w2 base b most turns S D M now v D' F' M' fired := by
  refine ⟨h.tm.cl hc, h.kept.trans (Kept.cl hc), h.perm, h.sorted, h.due, h.cross, ?_, h.apart, fun k hk => Nat.lt_of_lt_of_le (h.lt k hk) hc.out.size⟩
  refine ⟨h.row.1, ?_⟩
  rcases h.row.2 with x | ⟨g, cap, cur, rfl, h1, hg, r⟩
  · exact .inl x
  · exact .inr ⟨g, cap, cur, rfl, h1, hc.out.hd (fun x => x) hg, r⟩
theorem owns_frame {w w' : World} {bs : Nat} {t : TypeId} {z : Nat} {v : Value} {n : Nat} {xs : List Value} {T : Nat → Prop} (h : w.ownsRow bs t z v n xs) (hF : Fr T w w') (hT : ∀ g, v.ownBlock = some g → ¬ T g) : w'.ownsRow bs t z v n xs := by
  refine ⟨h.1, ?_⟩
  rcases h.2 with x | ⟨g, cap, cur, rfl, h1, hg, r⟩
  · exact .inl x
  · exact .inr ⟨g, cap, cur, rfl, h1, hF.hd (hT g rfl) hg, r⟩
theorem owns_shape {w : World} {bs : Nat} {t : TypeId} {z : Nat} {v : Value} {n : Nat} {xs : List Value} (h : w.ownsRow bs t z v n xs) : ∃ a c, v = .slice a n c ∧ n ≤ c := by
  rcases h.2 with ⟨rfl, rfl⟩ | ⟨g, cap, cur, rfl, h1, hg, h2, _⟩
  · exact ⟨none, 0, rfl, Nat.le_refl _⟩
  · exact ⟨_, _, rfl, h2⟩
theorem owns_block {w : World} {bs : Nat} {t : TypeId} {z : Nat} {v : Value} {n : Nat} {xs : List Value} (h : w.ownsRow bs t z v n xs) {g : Nat} (hg : v.ownBlock = some g) : bs ≤ g ∧ g < w.heap.size := by
  rcases h.2 with ⟨rfl, rfl⟩ | ⟨g', cap, cur, rfl, h1, hh, h2, _⟩
  · simp [Value.ownBlock] at hg
  · simp only [Value.ownBlock, Option.some.injEq] at hg
    subst hg
    exact ⟨h1, hp_lt hh⟩

theorem Kept.pass {V U U' : World} {M M' T : Nat → Prop} (h : Kept V U M M') (hF : Fr T U U') (hT : ∀ k, k < V.heap.size → ¬ T k) : Kept V U' M M' := ⟨h.fr.trans hF (fun i hi t => absurd t (hT i hi)), h.more⟩
theorem Fd.step {now : Int} {v v2 : Value} {D' F' : List Nat} {M' : Nat → Prop} {fired : List Nat} {w2 w3 : World} {D2 F2 : List Nat} {M2 : Nat → Prop} (ht : turns ≤ 1125899906842624) (h : Fd W wr base b most turns S D M now v D' F' M' fired) (h0 : 0 < D'.length) (hn : (sg S (gt D' 0)).when ≤ now)
    (hF : Fr (fun k => some k = v.ownBlock) wr w2) (hrow : w2.ownsRow W.heap.size 3 1 v2 (fired.length + 1) (keys S fired ++ [.int .i64 (sg S (gt D' 0)).key])) (hloc : v2.ownBlock = v.ownBlock ∨ ∃ g, v2.ownBlock = some g ∧ wr.heap.size ≤ g)
    (h3 : Tm w3 base b most turns S D2 F2 M2) (hp : (gt D' 0 :: D2).Perm D') (hk : Kept w2 w3 M' M2) : Fd W w3 base b most turns S D M now v2 D2 F2 (fun k => M2 k ∧ k < w3.heap.size) (fired ++ [gt D' 0]) := by
  have hnd := h.tm.inv.nodup
  have hndD : D'.Nodup := (List.nodup_append.1 hnd).1
  have hnd2 := hp.nodup_iff.2 hndD
  rw [List.nodup_cons] at hnd2
  have hap2 : ∀ g, v2.ownBlock = some g → ¬ M' g := by
    intro g hg
    rcases hloc with hl | ⟨g', hl, hg'⟩
    · exact h.apart g (hl ▸ hg)
    · rw [hg] at hl; simp at hl
      intro hm
      have := h.lt g hm
      omega
  have hpass : Kept W w2 M M' := h.kept.pass hF (fun k hk e => by have := (owns_block h.row e.symm).1; omega)
  have hl2 : ∀ g, v2.ownBlock = some g → g < w2.heap.size := fun g hg => (owns_block hrow hg).2
  have hxm : gt D' 0 ∈ D' := gt_mem D' 0 h0
  refine ⟨h3.bound, (hpass.trans hk).less (fun _ h => h.1), ?_, ?_, ?_, ?_, ?_, ?_, fun k hk => hk.2⟩
  · have e1 : (fired ++ [gt D' 0] ++ D2).Perm (fired ++ D') := by
      rw [List.append_assoc]
      exact List.Perm.append_left _ hp
    exact e1.trans h.perm
  · rw [List.pairwise_append]
    refine ⟨h.sorted, List.pairwise_singleton _ _, fun x hx y hy => ?_⟩
    simp at hy
    subst hy
    exact h.cross x hx _ hxm
  · intro x hx
    rcases List.mem_append.1 hx with hx | hx
    · exact h.due x hx
    · simp at hx; subst hx; exact hn
  · intro x hx y hy
    have hyD : y ∈ D' := hp.subset (List.mem_cons_of_mem _ hy)
    rcases List.mem_append.1 hx with hx | hx
    · exact h.cross x hx y hyD
    · rw [List.mem_singleton] at hx
      subst hx
      have h1 := h.tm.inv.hD.least_mem hyD
      have h2 := h.tm.inv.rk_inj ht (h.tm.inv.memD hxm) (h.tm.inv.memD hyD) (fun e => hnd2.1 (by rw [e]; exact hy))
      omega
  · have e1 : keys S (fired ++ [gt D' 0]) = keys S fired ++ [.int .i64 (sg S (gt D' 0)).key] := by simp [keys]
    rw [e1, List.length_append, List.length_singleton]
    exact owns_frame hrow hk.fr hap2
  · intro g hg hm
    rcases hk.more g hm.1 with h1 | h1
    · exact hap2 g hg h1
    · have := hl2 g hg
      omega

set_option maxHeartbeats 1000000 in
theorem fire_any (h : Tm W base b most turns S D F M) (ht : turns ≤ 1125899906842624) (now : Int) :
    Calls Try.prog 19 #[.pointer (some ⟨b, 0, none⟩), .int .i64 now] W fun e w' => ∃ v D' F' M' fired, e = .returned v ∧ Fd W w' base b most turns S D M now v D' F' M' fired ∧ ∀ y, y ∈ D' → now < (sg S y).when := by
  have H0 : Hid (Fd W W base b most turns S D M now (.slice none 0 0) D F (fun k => M k ∧ k < W.heap.size) []) := hide ⟨h.bound, (Kept.cl (Cl.refl W)).less (fun _ h => h.1), by simp, List.Pairwise.nil, fun x hx => by simp at hx, fun x hx => by simp at hx, ⟨rfl, .inl ⟨rfl, rfl⟩⟩, fun g hg => by simp [Value.ownBlock] at hg, fun k hk => hk.2⟩
  have hlenD : D.length ≤ 4096 := by have := h.inv.lens; have := h.inv.len; have := h.inv.m2; omega
  clear h
  go_enter Try.func19, Try.ntmps19
  go_wp2_with fail
  go_loopw [5] (fun v wr => ∃ D' F' M' fired, Hid (Fd W wr base b most turns S D M now v D' F' M' fired)) (fun v _ => D.length - slen v)
  case atStart => exact ⟨D, F, _, [], H0⟩
  case round =>
    clear H0
    obtain ⟨D', F', M', fired, HH⟩ := hrel
    obtain ⟨vs, vd, vf, ho, hmi⟩ := HH.out.tm.obj
    have hi := HH.out.tm.inv
    have hl1 := hi.len
    have hl2 := hi.m2
    have hlen := hide (len_any ho)
    have hfl : fired.length + D'.length = D.length := by have := HH.out.perm.length_eq; simpa using this
    obtain ⟨a5, c5, hv5, _⟩ := owns_shape HH.out.row
    have HRow := hide HH.out.row
    by_cases h0 : D'.length = 0
    · rw [h0] at hlen
      have HD : Hid (D' = []) := hide (List.eq_nil_of_length_eq_zero h0)
      subst hv5
      clear ho hmi hi
      go_wp2_with fail
      refine hlen.out.mono ?_
      rintro e w' ⟨rfl, rfl⟩
      go_wp2_with fail
      go_ret
      exact ⟨_, D', F', M', fired, rfl, HH.out, fun y hy => by rw [HD.out] at hy; simp at hy⟩
    · have hfst := hide (first_any ho (by omega) (by omega) (fun x hx => hi.memD hx))
      have hpos : (0 : Int) < D'.length := by omega
      have hpos2 : 0 < D'.length := by omega
      have HLst : Hid (∀ y, y ∈ D' → (sg S (gt D' 0)).when ≤ (sg S y).when) := hide (fun y hy => by
        have h1 := hi.hD.least_mem hy
        have h2 := hi.sl y (hi.memD hy)
        have h3 := hi.sl _ (hi.memD (gt_mem D' 0 hpos2))
        unfold rk at h1
        omega)
      obtain ⟨s, Hsl⟩ : ∃ s, Hid (sg S (gt D' 0) = s) := ⟨_, hide rfl⟩
      have HO := hide ho
      have hf2 := hide (fun (V : World) (hV : Cl wr V) => first_any (ho.cl hV) (by omega) (by omega) (fun x hx => hi.memD hx))
      rw [Hsl.out] at hfst hf2 HLst
      obtain ⟨sw, sk, st, sn⟩ := s
      dsimp only at hfst hf2 HLst
      have hq0 := field0 sw sk st sn
      have hq1 := field1 sw sk st sn
      subst hv5
      clear ho hmi hi
      by_cases hn : sw ≤ now
      · go_wp2_with fail
        refine hlen.out.mono ?_
        rintro e w' ⟨rfl, rfl⟩
        go_wp2_with fail
        refine hfst.out.mono ?_
        rintro e w1 ⟨rfl, k1⟩
        have K1 := hide k1
        have hf3 := hide (hf2.out w1 k1)
        clear k1 hfst
        go_wp2_with fail
        refine hf3.out.mono ?_
        rintro e w2 ⟨rfl, k2⟩
        have K2 := hide k2
        have FD2 := hide ((HH.out.cl K1.out).cl k2)
        clear k2 hf3 hf2
        go_wp2_with (at_builtin; apply Hid.out)
        unfold Hid
        refine wpList_append_int rfl _ _ rfl w2 W.heap.size (.slice a5 fired.length c5) fired.length (keys S fired) sk rfl rfl FD2.out.row (by omega) (FD2.out.kept.fr.size) ?_
        intro v3 w3 o3 f3 l3
        have hTm : Tm w3 base b most turns S D' F' M' := FD2.out.tm.frame f3 (fun k _ hm e => FD2.out.apart k e.symm hm)
        have hlv := hide (leave_any hTm ht 0 hpos2)
        have O3 := hide o3
        have F3 := hide f3
        have L3 := hide l3
        obtain ⟨a6, c6, hv6, _⟩ := owns_shape o3
        subst hv6
        clear o3 f3 l3 hTm
        go_wp2_with fail
        refine hlv.out.mono ?_
        rintro e w4 ⟨rfl, D2, F2, M2, t2, p2, q2⟩
        have T2 := hide t2
        have P2 := hide p2
        have Q2 := hide q2
        clear t2 p2 q2 hlv
        go_wp2_with fail
        go_roundw
        case rel =>
          have es := Hsl.out
          refine ⟨D2, F2, _, fired ++ [gt D' 0], hide (FD2.out.step ht hpos2 (by rw [es]; exact hn) F3.out (by rw [es]; exact O3.out) L3.out T2.out P2.out Q2.out)⟩
        case measure => simp [slen]; omega
      · have hn2 : now < sw := by omega
        go_wp2_with fail
        refine hlen.out.mono ?_
        rintro e w' ⟨rfl, rfl⟩
        go_wp2_with fail
        refine hfst.out.mono ?_
        rintro e w1 ⟨rfl, k1⟩
        have K1 := hide k1
        clear k1 hfst
        go_wp2_with fail
        go_ret
        exact ⟨_, D', F', M', fired, rfl, HH.out.cl K1.out, fun y hy => by have := HLst.out y hy; omega⟩

theorem fire_nil (W : World) (now : Int) : Calls Try.prog 19 #[.pointer none, .int .i64 now] W fun e w' => e = .returned (.slice none 0 0) ∧ W = w' := by
  go_enter Try.func19, Try.ntmps19
  go_wp2_with fail
  go_loopw [5] (fun v wr => v = .slice none 0 0 ∧ W = wr) (fun _ _ => 0)
  case atStart => exact ⟨rfl, rfl⟩
  case round =>
    obtain ⟨rfl, rfl⟩ := hrel
    go_wp2_with (go_at_call 23; refine (len_nil _).mono ?_; rintro e w' ⟨rfl, rfl⟩)
    go_ret
    exact ⟨rfl, rfl⟩

theorem new_any (W : World) (m : Nat) (h1 : 1 ≤ m) (h2 : m ≤ 4096) : Calls Try.prog 9 #[.int .i64 (m : Int)] W fun e w' => e = .returned (.tuple #[.pointer (some ⟨W.heap.size, 0, none⟩), .int .i64 0]) ∧ Tm w' W.heap.size W.heap.size m 0 [] [] [] (fun k => k = W.heap.size) ∧ Cl W w' ∧ w'.heap.size = W.heap.size + 1 := by
  have hm1 : (1 : Int) ≤ m := by omega
  have hm2 : (m : Int) ≤ 4096 := by omega
  go_enter Try.func9, Try.ntmps9
  go_wp2_with fail
  go_ret2
  refine ⟨rfl, ⟨⟨.slice none 0 0, .slice none 0 0, .slice none 0 0, ⟨hp_new W _, Nat.le_refl _, ⟨⟨rfl, .inl ⟨rfl, rfl⟩⟩⟩, Own.nil _ _, Own.nil _ _, by simp [Value.ownBlock], by simp [Value.ownBlock], by simp [Value.ownBlock], fun g hg => by simp [Value.ownBlock] at hg, fun g hg => by simp [Value.ownBlock] at hg, fun g hg => by simp [Value.ownBlock] at hg⟩, fun k hk => ?_⟩, ?_⟩, Fr.alloc _ _ _, by simp⟩
  · rcases hk with hk | hk | hk | hk
    · exact hk
    all_goals simp [Value.ownBlock] at hk
  · exact ⟨h1, h2, by simp, by simp, Hp.nil _, Hp.nil _, Int.le_refl _, fun i hi => by simp at hi, fun i j hi => by simp at hi⟩
end
end Go.Proofs.Ytbmhhkpehilioaa
