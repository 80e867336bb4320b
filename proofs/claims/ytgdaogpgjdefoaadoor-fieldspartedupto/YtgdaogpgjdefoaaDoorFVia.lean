/- Via: the program's, the document's. -/
import Derived.Test.YtgdaogpgjdefoaaDoorFStrip
import Derived.Test.YtgdaogpgjdefoaaDoorStp
import Derived.Lib.ItoaLen
import Derived.Lib.LaidTab
namespace Go.Proofs.YtgdaogpgjdefoaaDoor
open Go.ChangeShapes Go.WideShapes Go.ChangeAt Go.RowKit Go.Maps

def PT (w : World) : Prop := Lib.TabIs Tryd.prog w "internal/strconv.uint64pow10" .u64 Lib.pow10Tab
theorem gpow : Tryd.prog.globalNamed "internal/strconv.uint64pow10" = some 1 := by kernel_rfl
theorem PT.below {w w' : World} (h : PT w) (hb : Below w.heap.size w w') : PT w' := by
  unfold PT Lib.TabIs World.var? at h ⊢
  rw [gpow] at h ⊢
  simp only [Option.bind_some] at h ⊢
  have hlt : 1 < w.heap.size := by
    rcases Nat.lt_or_ge 1 w.heap.size with h' | h'
    · exact h'
    · rw [Array.getElem?_eq_none h'] at h; cases h
  rw [hb.block 1 hlt]
  exact h
theorem below_grow (w : World) (q : Nat) (os : Array Obj) : Below w.heap.size w (Sort.grow (w.drewN q) os) :=
  ⟨rfl, rfl, rfl, by simp [Sort.grow], fun k hk => by simp [Sort.grow, World.drewN, Array.getElem?_append_left hk]⟩
def itoaS (p : Int) : ByteArray := ⟨(Lib.itoa p).toArray⟩
theorem itoa_any (p : Int) (w : World) (h0 : -9223372036854775808 ≤ p) (h1 : p ≤ 9223372036854775807) (ht : PT w) :
    Calls Tryd.prog 46 #[.int .i64 p] w fun e w' => e = .returned (.string (itoaS p)) ∧ Below w.heap.size w w' := by
  refine (Tryd.strconv_Itoa p h0 h1 w ht).mono ?_
  rintro e w' ⟨rfl, k, os, rfl⟩
  exact ⟨rfl, below_grow w k os⟩
theorem itoaS_size (p : Int) (h0 : -9223372036854775808 ≤ p) (h1 : p ≤ 9223372036854775807) : (itoaS p).size ≤ 21 := by
  rw [← size_len]
  simpa [itoaS] using Lib.itoa_length_le p h0 h1

def viaN : ByteArray := ⟨#[86, 105, 97]⟩
def viaT (m : Int) (b : ByteArray) : ByteArray := ((⟨#[49, 46]⟩ ++ itoaS m) ++ ⟨#[32]⟩) ++ b
def viaE (m : Int) (b : ByteArray) : Nat := if m = 0 ∨ m = 1 then (if tokenB b.data.toList then 0 else 70) else 1
def viaS (A : List (ByteArray × ByteArray)) (m : Int) (b : ByteArray) : List (ByteArray × ByteArray) := if viaE m b = 0 then A ++ [(viaN, viaT m b)] else []
theorem FRow.slice {W : World} {base : Nat} {v : Value} {A : List (ByteArray × ByteArray)} (h : FRow W base v A) : ∃ a n c, v = .slice a n c := by
  obtain ⟨a, c, h, _⟩ := h.shape
  exact ⟨a, _, c, h⟩
theorem dropS_nil (A : List (ByteArray × ByteArray)) : dropS A [] = A := by
  unfold dropS
  apply List.filter_eq_self.2
  intro f _
  rfl
/-- A field of the call's own in block k. -/
structure VS (w x : World) (k : Nat) (a b : ByteArray) : Prop where
  h : x.heap[k]? = some (.cells #[.string a, .string b] 43)
  b : Below w.heap.size w x
theorem VS.below {w x y : World} {k : Nat} {a b : ByteArray} (h : VS w x k a b) (hb : Below x.heap.size x y) : VS w y k a b := ⟨(hb.block _ (lt_heap h.h)).trans h.h, h.b.trans (hb.mono h.b.size)⟩
theorem VS.without {w x : World} {k : Nat} {a b : ByteArray} (h : VS w x k a b) {l mv : Value} {A : List (ByteArray × ByteArray)} {S : List ByteArray} (hA : Flds w l A) (hs : Sm A) (hm : MapIs x mv S) :
    Calls Tryd.prog 42 #[l, mv] x fun e y => ∃ r, e = .returned r ∧ ∃ ad c, r = .slice ad (dropS A S).length c ∧ y.cell? ⟨k, 0, none⟩ = some (.string a) ∧ y.cell? ⟨k, 1, none⟩ = some (.string b) ∧ Hid (VS w y k a b) ∧ Hid (FRow y (k + 1) (.slice ad (dropS A S).length c) (dropS A S)) := by
  refine (without_any x l mv A S (hA.below h.b) hs hm).mono ?_
  rintro e y ⟨v, rfl, hR, hb⟩
  obtain ⟨ad, c, rfl, _, _⟩ := hR.shape
  have h2 := h.below hb
  exact ⟨_, rfl, ad, c, rfl, cell_at h2.h 0, cell_at h2.h 1, h2, hR.lower (lt_heap h.h)⟩
theorem VS.clone {w y : World} {k : Nat} {a b : ByteArray} (h : VS w y k a b) (hk : w.heap.size ≤ k) (ha : a.size ≤ 2097152) (hb : b.size ≤ 2097152) {v : Value} {O : List (ByteArray × ByteArray)} (hR : FRow y (k + 1) v O) (hO : O.length ≤ 1048576) :
    Calls Tryd.prog 43 #[.agg #[.string a, .string b]] y fun e z => ∃ r, e = .returned r ∧ r = .agg #[.string a, .string b] ∧ ∃ ad n c W', (Builtin.append_ #[22, 22] 22 #[v, .slice (some ⟨z.heap.size, 0, none⟩) 1 1]).run Tryd.prog (z.alloc (.cells #[.string a, .string b] 43)) = .ok (.slice ad n c) W' ∧ Hid (FRow W' (k + 1) (.slice ad n c) (O ++ [(a, b)])) ∧ Hid (Below w.heap.size w W') := by
  refine (fclone_any a b y ha hb).mono ?_
  rintro e z ⟨rfl, hz⟩
  have hR2 := hR.below hz
  have hk2 : k + 1 ≤ z.heap.size := lt_heap (h.below hz).h
  obtain ⟨v', W', hr, h1, h2⟩ := append_fld z (k + 1) 22 v O (a, b) hR2 (by omega) hk2
  obtain ⟨ad, c, rfl, _, _⟩ := h1.shape
  exact ⟨_, rfl, rfl, ad, _, c, W', hr, h1, (h.below hz).b.trans (h2.mono (by omega))⟩
set_option maxHeartbeats 4000000 in
set_option maxRecDepth 100000 in
theorem via_ok (w : World) (l : Value) (A : List (ByteArray × ByteArray)) (m : Int) (b : ByteArray) (hA : Flds w l A) (hs : Sm A) (hm : m = 0 ∨ m = 1) (hb : b.size ≤ 1048576) (hT : tokenB b.data.toList = true) (ht : PT w) :
    Calls Tryd.prog 22 #[l, .int .i64 m, .string b] w fun e w' => ∃ v, e = .returned (.tuple #[v, .int .i64 0]) ∧ FRow w' w.heap.size v (A ++ [(viaN, viaT m b)]) ∧ Below w.heap.size w w' := by
  have hz := itoaS_size m (by omega) (by omega)
  have HI := hide (itoa_any m w (by omega) (by omega) ht)
  have HTK := hide (fun W => token_any b W (by unfold maxLen; omega))
  rw [hT] at HTK
  have hvz : (viaT m b).size ≤ 2097152 := by
    unfold viaT
    rw [app_size, app_size, app_size]
    have e1 : (⟨#[49, 46]⟩ : ByteArray).size = 2 := rfl
    have e2 : (⟨#[32]⟩ : ByteArray).size = 1 := rfl
    omega
  have HVT := hide (show viaT m b = ((⟨#[49, 46]⟩ ++ itoaS m) ++ ⟨#[32]⟩) ++ b from rfl)
  generalize viaT m b = vt at hvz HVT ⊢
  generalize itoaS m = it at hz HI HVT
  have HWO := hide (fun (x : World) (k : Nat) (h : VS w x k viaN vt) => h.without hA hs (MapIs.nil x))
  rw [dropS_nil] at HWO
  have HCL := hide (fun (y : World) (k : Nat) (v : Value) (hk : w.heap.size ≤ k) (h : VS w y k viaN vt) (hR : FRow y (k + 1) v A) => h.clone hk (by decide) hvz hR hs.1)
  obtain ⟨a0, c0, rfl, _, hcells⟩ := hA
  clear hcells hs ht hT
  rcases hm with rfl | rfl
  all_goals
    go_enter Tryd.func22, Tryd.ntmps22
    go_wp2_with fail
    refine (HTK.out _).mono ?_
    rintro e w1 ⟨rfl, rfl⟩
    go_wp2_with fail
    refine HI.out.mono ?_
    rintro e w2 ⟨rfl, b2⟩
    go_upto_region 6 with fail
    rw [← HVT.out]
    have V0 : Hid (VS w (w2.alloc (.cells #[.string viaN, .string vt] 43)) w2.heap.size viaN vt) := hide ⟨hp_new w2 _, b2.alloc b2.size _⟩
    have hk0 : w.heap.size ≤ w2.heap.size := b2.size
    clear b2 HVT
    change Code.wp _ _ _ _ (w2.alloc (.cells #[.string viaN, .string vt] 43))
    generalize w2.alloc (.cells #[.string viaN, .string vt] 43) = x at V0 ⊢
    generalize w2.heap.size = k at V0 hk0 ⊢
    have HK0 := hide hk0
    clear hk0
    have d0 : x.cell? ⟨k, 0, none⟩ = some (.string viaN) := cell_at V0.out.h 0
    have d1 : x.cell? ⟨k, 1, none⟩ = some (.string vt) := cell_at V0.out.h 1
    have V1 := hide (V0.out.below ((Below.refl _ x).drew))
    go_region_law (first
      | (refine step_append_is rfl (.tmp 26) (.tmp 29) 22 rfl (.slice ad A.length c) (.slice (some ⟨z.heap.size, 0, none⟩) 1 1) (.slice ad2 n2 c2) (by simp [Act.eval]) (by simp [Act.eval]) hrun ?_)
      | (refine step_call rfl 42 _ _ rfl (enters_of Tryd.func42 (by kernel_rfl) rfl) #[.slice a0 A.length c0, .map none] (by simp [Act.eval, Act.put]) _ (HWO.out _ k V1.out) ?_; rintro r y ⟨ad, c, rfl, e0, e1, VY, RY⟩)
      | (refine step_call rfl 43 _ _ rfl (enters_of Tryd.func43 (by kernel_rfl) rfl) #[.agg #[.string viaN, .string vt]] (by simp [Act.eval]) _ (HCL.out _ k (.slice ad A.length c) HK0.out VY.out RY.out) ?_; rintro r z ⟨rfl, ad2, n2, c2, W2, hrun, RW, BW⟩))
    all_goals (go_wp2)
    all_goals (go_ret2)
    all_goals (exact ⟨_, rfl, RW.out.lower (Nat.le_succ_of_le HK0.out), BW.out⟩)
theorem via_bad (w : World) (l : Value) (m : Int) (b : ByteArray) (hm : ¬ (m = 0 ∨ m = 1)) :
    Calls Tryd.prog 22 #[l, .int .i64 m, .string b] w fun e w' => e = .returned (.tuple #[.slice none 0 0, .int .i64 1]) ∧ Below w.heap.size w w' := by
  have t0 : (m != 0) = true := bne_iff_ne.2 (fun h => hm (.inl h))
  have t1 : (m != 1) = true := bne_iff_ne.2 (fun h => hm (.inr h))
  clear hm
  go_enter Tryd.func22, Tryd.ntmps22
  go_wp2
  go_ret2
  exact ⟨rfl, Below.refl _ _⟩
theorem via_tok (w : World) (l : Value) (m : Int) (b : ByteArray) (hm : m = 0 ∨ m = 1) (hb : b.size ≤ 1048576) (hT : tokenB b.data.toList = false) :
    Calls Tryd.prog 22 #[l, .int .i64 m, .string b] w fun e w' => e = .returned (.tuple #[.slice none 0 0, .int .i64 70]) ∧ Below w.heap.size w w' := by
  have HTK := hide (fun W => token_any b W (by unfold maxLen; omega))
  rw [hT] at HTK
  rcases hm with rfl | rfl
  all_goals
    go_enter Tryd.func22, Tryd.ntmps22
    go_wp2_with fail
    refine (HTK.out _).mono ?_
    rintro e w1 ⟨rfl, rfl⟩
    go_wp2
    go_ret2
    exact ⟨rfl, Below.refl _ _⟩
theorem via_any (w : World) (l : Value) (A : List (ByteArray × ByteArray)) (m : Int) (b : ByteArray) (hA : Flds w l A) (hs : Sm A) (hb : b.size ≤ 1048576) (ht : PT w) :
    Calls Tryd.prog 22 #[l, .int .i64 m, .string b] w fun e w' => ∃ v, e = .returned (.tuple #[v, .int .i64 (viaE m b : Nat)]) ∧ FRow w' w.heap.size v (viaS A m b) ∧ Below w.heap.size w w' := by
  by_cases hm : m = 0 ∨ m = 1
  · cases hT : tokenB b.data.toList with
    | true =>
      have hE : viaE m b = 0 := by unfold viaE; rw [if_pos hm, hT]; rfl
      unfold viaS
      rw [hE, if_pos rfl]
      exact via_ok w l A m b hA hs hm hb hT ht
    | false =>
      have hE : viaE m b = 70 := by unfold viaE; rw [if_pos hm, hT]; rfl
      unfold viaS
      rw [hE, if_neg (by decide)]
      exact (via_tok w l m b hm hb hT).mono fun _ _ ⟨h1, h2⟩ => ⟨_, h1, FRow.nil _ _, h2⟩
  · have hE : viaE m b = 1 := by unfold viaE; rw [if_neg hm]
    unfold viaS
    rw [hE, if_neg (by decide)]
    exact (via_bad w l m b hm).mono fun _ _ ⟨h1, h2⟩ => ⟨_, h1, FRow.nil _ _, h2⟩
set_option maxHeartbeats 2000000 in
theorem rvia_ok (w : World) (l : Value) (A : List (ByteArray × ByteArray)) (m : Int) (b : ByteArray) (hA : Flds w l A) (hs : Sm A) (hm : m = 0 ∨ m = 1) (hb : b.size ≤ 1048576) (hT : tokenB b.data.toList = true) (ht : PT w) :
    Calls Tryd.prog 23 #[l, .int .i64 m, .string b] w fun e w' => ∃ v, e = .returned (.tuple #[v, .int .i64 0]) ∧ FRow w' w.heap.size v (A ++ [(viaN, viaT m b)]) ∧ Below w.heap.size w w' := by
  have hz := itoaS_size m (by omega) (by omega)
  have HI := hide (fun W (hW : PT W) => itoa_any m W (by omega) (by omega) hW)
  have HTK := hide (fun W => rtoken_any b W (by unfold maxLen; omega))
  rw [hT] at HTK
  have HVT := hide (show viaT m b = ((⟨#[49, 46]⟩ ++ itoaS m) ++ ⟨#[32]⟩) ++ b from rfl)
  generalize viaT m b = vt at HVT ⊢
  generalize itoaS m = it at hz HI HVT
  have HA := hide hA
  have hl := hs.1
  have HT := hide ht
  obtain ⟨a0, c0, rfl, hc0, hcells⟩ := hA
  clear hcells hs ht hT hc0
  rcases hm with rfl | rfl
  all_goals
    go_enter Tryd.func23, Tryd.ntmps23
    go_wp2_with fail
    refine (HTK.out _).mono ?_
    rintro e w1 ⟨rfl, b1⟩
    have B1 := hide b1
    clear b1
    go_wp2_with (at_builtin; apply Hid.out)
    unfold Hid
    refine wpList_append_flds rfl _ _ rfl w1 w.heap.size (.slice none 0 0) (.slice a0 A.length c0) [] A rfl rfl (FRow.nil _ _) (HA.out.below B1.out) (by simp; omega) B1.out.size ?_
    intro v2 w2 R2' B2'
    have R2 := hide R2'
    have B2 := hide (B1.out.trans B2')
    clear R2' B2' B1
    rw [List.nil_append] at R2
    obtain ⟨a2, c2, rfl, _, _⟩ := R2.out.shape
    go_wp2_with fail
    refine (HI.out w2 (HT.out.below B2.out)).mono ?_
    rintro e w3 ⟨rfl, b3⟩
    have R3 := hide (R2.out.below b3)
    have B3 := hide (B2.out.trans (b3.mono B2.out.size))
    clear b3 R2 B2
    go_wp2_with (at_builtin; apply Hid.out)
    unfold Hid
    rw [← HVT.out]
    refine wpList_append_fld rfl _ _ rfl w3 w.heap.size (.slice a2 A.length c2) A viaN vt rfl rfl R3.out (by omega) B3.out.size ?_
    intro v4 w4 R4' B4'
    have R4 := hide R4'
    have B4 := hide (B3.out.trans B4')
    clear R4' B4'
    obtain ⟨a4, n4, c4, rfl⟩ := R4.out.slice
    go_wp2
    go_ret2
    exact ⟨_, rfl, R4.out, B4.out⟩
theorem rvia_bad (w : World) (l : Value) (m : Int) (b : ByteArray) (hm : ¬ (m = 0 ∨ m = 1)) :
    Calls Tryd.prog 23 #[l, .int .i64 m, .string b] w fun e w' => e = .returned (.tuple #[.slice none 0 0, .int .i64 1]) ∧ Below w.heap.size w w' := by
  by_cases h : m < 0
  · go_enter Tryd.func23, Tryd.ntmps23
    go_wp2
    go_ret2
    exact ⟨rfl, Below.refl _ _⟩
  · have h1 : (1 : Int) < m := by omega
    clear hm
    go_enter Tryd.func23, Tryd.ntmps23
    go_wp2
    go_ret2
    exact ⟨rfl, Below.refl _ _⟩
theorem rvia_tok (w : World) (l : Value) (m : Int) (b : ByteArray) (hm : m = 0 ∨ m = 1) (hb : b.size ≤ 1048576) (hT : tokenB b.data.toList = false) :
    Calls Tryd.prog 23 #[l, .int .i64 m, .string b] w fun e w' => e = .returned (.tuple #[.slice none 0 0, .int .i64 70]) ∧ Below w.heap.size w w' := by
  have HTK := hide (fun W => rtoken_any b W (by unfold maxLen; omega))
  rw [hT] at HTK
  rcases hm with rfl | rfl
  all_goals
    go_enter Tryd.func23, Tryd.ntmps23
    go_wp2_with fail
    refine (HTK.out _).mono ?_
    rintro e w1 ⟨rfl, b1⟩
    go_wp2
    go_ret2
    exact ⟨rfl, b1⟩
theorem rvia_any (w : World) (l : Value) (A : List (ByteArray × ByteArray)) (m : Int) (b : ByteArray) (hA : Flds w l A) (hs : Sm A) (hb : b.size ≤ 1048576) (ht : PT w) :
    Calls Tryd.prog 23 #[l, .int .i64 m, .string b] w fun e w' => ∃ v, e = .returned (.tuple #[v, .int .i64 (viaE m b : Nat)]) ∧ FRow w' w.heap.size v (viaS A m b) ∧ Below w.heap.size w w' := by
  by_cases hm : m = 0 ∨ m = 1
  · cases hT : tokenB b.data.toList with
    | true =>
      have hE : viaE m b = 0 := by unfold viaE; rw [if_pos hm, hT]; rfl
      unfold viaS
      rw [hE, if_pos rfl]
      exact rvia_ok w l A m b hA hs hm hb hT ht
    | false =>
      have hE : viaE m b = 70 := by unfold viaE; rw [if_pos hm, hT]; rfl
      unfold viaS
      rw [hE, if_neg (by decide)]
      exact (rvia_tok w l m b hm hb hT).mono fun _ _ ⟨h1, h2⟩ => ⟨_, h1, FRow.nil _ _, h2⟩
  · have hE : viaE m b = 1 := by unfold viaE; rw [if_neg hm]
    unfold viaS
    rw [hE, if_neg (by decide)]
    exact (rvia_bad w l m b hm).mono fun _ _ ⟨h1, h2⟩ => ⟨_, h1, FRow.nil _ _, h2⟩
end Go.Proofs.YtgdaogpgjdefoaaDoor
