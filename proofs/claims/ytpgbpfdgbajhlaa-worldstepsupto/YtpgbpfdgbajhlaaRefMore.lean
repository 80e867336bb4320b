/- The document's own world: bytes that come, what was sent, numbers that are drawn. -/
import Derived.Test.YtpgbpfdgbajhlaaRefTurn
namespace Go.Proofs.Ytpgbpfdgbajhlaa
open Go.ChangeShapes Go.WideShapes Go.ChangeAt Go.RowKit

section
variable {W : World} {d : Nat} {S : List Cn} {dr : List Int} {own : Nat → Option Tag} {lv : Value} {lg : Option Nat} {px : Nat → Ph} {dv : Value} {dg : Option Nat} {k : Int} {i : Nat} {x : Cn}

/-- A connection's row of waiting bytes is another one. -/
theorem Xd.waits (h : XObj W d S dr own lv lg px dv dg) {g : Nat} (hg : lg = some g) (hx : S[i]? = some x) {W2 : World} {v : Value} {l : List Int} {go go' : Option Nat} (hF : Fr (fun b => own b = some (.wt i)) W W2) (hR : Row W2 .u8 v l go') (hgo : go' = go ∨ ∃ b, go' = some b ∧ W.heap.size ≤ b) (ht : ∀ b, go = some b → own b = some (.wt i)) :
    Xd (W2.setCell ⟨g, i * 6 + 3, none⟩ v) d (S.set i { x with waits := l }) dr (more own W.heap.size go' (.wt i)) ∧ Kp own (more own W.heap.size go' (.wt i)) W (W2.setCell ⟨g, i * 6 + 3, none⟩ v) := by
  subst hg
  have hil : i < S.length := (List.getElem?_eq_some_iff.1 hx).1
  have hgt := h.ltag g rfl
  have hgl := h.low g _ hgt
  have hE := h.ent i x hx
  have hne : ∀ b t, own b = some t → t ≠ .om → b ≠ g := fun b t e ht eb => by rw [eb, hgt] at e; cases e; exact ht rfl
  have hgo' : ∀ b, go' = some b → b ≠ g := by
    intro b e
    rcases hgo with h1 | ⟨b', h1, h2⟩
    · exact hne b _ (ht b (by rw [← h1]; exact e)) nofun
    · rw [h1] at e; cases e; omega
  have hfr : Fr (fun b => own b = some .om ∨ own b = some (.wt i) ∨ own b = some (.st i)) W (W2.setCell ⟨g, i * 6 + 3, none⟩ v) := (hF.mono (fun _ _ e => .inr (.inl e))).trans (Fr.set W2 g (i * 6 + 3) v) (fun b _ e => by rw [e]; exact .inl hgt)
  have hrow2 := h.row.frame hF.size (fun b e => by cases e; exact hF.block g hgl (fun e => by rw [hgt] at e; cases e))
  refine ⟨⟨lv, some g, _, dv, dg, h.turn (p' := { px i with wv := v, wg := go' }) hil hfr (more_old h.low _ _) (more_low h.low hfr.size (fun b e => ?_)) (hrow2.set (p' := { px i with wv := v, wg := go' }) hx 3 (by omega) v rfl) ⟨hR.frame (by simp) (fun b e => hp_set_other _ _ _ _ _ (hgo' b e)), more_new h.low hgo ht, hE.srow.frame hfr.size (fun b e => ?_), fun b e => more_old h.low _ _ _ _ (hE.stag b e)⟩⟩, hfr.mono (fun b _ e => by rcases e with e | e | e <;> rw [e] <;> nofun), more_no _ _⟩
  · subst e; simpa using hR.lt
  · rw [hp_set_other _ _ _ _ _ (hne b _ (hE.stag b e) nofun)]
    exact hF.block b (h.low _ _ (hE.stag b e)) (fun e2 => by rw [hE.stag b e] at e2; cases e2)
/-- .. or its row of bytes that were sent. -/
theorem Xd.sent (h : XObj W d S dr own lv lg px dv dg) {g : Nat} (hg : lg = some g) (hx : S[i]? = some x) {W2 : World} {v : Value} {l : List Int} {go go' : Option Nat} (hF : Fr (fun b => own b = some (.st i)) W W2) (hR : Row W2 .u8 v l go') (hgo : go' = go ∨ ∃ b, go' = some b ∧ W.heap.size ≤ b) (ht : ∀ b, go = some b → own b = some (.st i)) :
    Xd (W2.setCell ⟨g, i * 6 + 4, none⟩ v) d (S.set i { x with sent := l }) dr (more own W.heap.size go' (.st i)) ∧ Kp own (more own W.heap.size go' (.st i)) W (W2.setCell ⟨g, i * 6 + 4, none⟩ v) := by
  subst hg
  have hil : i < S.length := (List.getElem?_eq_some_iff.1 hx).1
  have hgt := h.ltag g rfl
  have hgl := h.low g _ hgt
  have hE := h.ent i x hx
  have hne : ∀ b t, own b = some t → t ≠ .om → b ≠ g := fun b t e ht eb => by rw [eb, hgt] at e; cases e; exact ht rfl
  have hgo' : ∀ b, go' = some b → b ≠ g := by
    intro b e
    rcases hgo with h1 | ⟨b', h1, h2⟩
    · exact hne b _ (ht b (by rw [← h1]; exact e)) nofun
    · rw [h1] at e; cases e; omega
  have hfr : Fr (fun b => own b = some .om ∨ own b = some (.wt i) ∨ own b = some (.st i)) W (W2.setCell ⟨g, i * 6 + 4, none⟩ v) := (hF.mono (fun _ _ e => .inr (.inr e))).trans (Fr.set W2 g (i * 6 + 4) v) (fun b _ e => by rw [e]; exact .inl hgt)
  have hrow2 := h.row.frame hF.size (fun b e => by cases e; exact hF.block g hgl (fun e => by rw [hgt] at e; cases e))
  refine ⟨⟨lv, some g, _, dv, dg, h.turn (p' := { px i with sv := v, sg := go' }) hil hfr (more_old h.low _ _) (more_low h.low hfr.size (fun b e => ?_)) (hrow2.set (p' := { px i with sv := v, sg := go' }) hx 4 (by omega) v rfl) ⟨hE.wrow.frame hfr.size (fun b e => ?_), fun b e => more_old h.low _ _ _ _ (hE.wtag b e), hR.frame (by simp) (fun b e => hp_set_other _ _ _ _ _ (hgo' b e)), more_new h.low hgo ht⟩⟩, hfr.mono (fun b _ e => by rcases e with e | e | e <;> rw [e] <;> nofun), more_no _ _⟩
  · subst e; simpa using hR.lt
  · rw [hp_set_other _ _ _ _ _ (hne b _ (hE.wtag b e) nofun)]
    exact hF.block b (h.low _ _ (hE.wtag b e)) (fun e2 => by rw [hE.wtag b e] at e2; cases e2)

set_option maxRecDepth 20000 in
theorem rarrive_yes (h : XObj W d S dr own lv lg px dv dg) (hS : SOk S dr) (hx : S[i]? = some x) (hop : x.isOpen = true) (he : x.ended = false) {a' : Option Addr} {cap' : Nat} {X : List Int} (hX0 : Sl W .u8 (.slice a' X.length cap') X) (hl : x.waits.length + X.length ≤ 1048576) :
    Calls Try.prog 28 #[.pointer (some ⟨d, 0, none⟩), .int .i64 x.num, .slice a' X.length cap'] W fun e W' => e = .returned (.int .i64 0) ∧ ∃ own', Xd W' d (S.set i { x with waits := x.waits ++ X }) dr own' ∧ Kp own own' W W' := by
  have hA := hide (rat_yes h hS hx hop)
  have hsz := hS.size
  have hi := (List.getElem?_eq_some_iff.1 hx).1
  have HL := hide h
  have Hx := hide hx
  have HX := hide hX0
  clear h hS hx hX0
  go_enter Try.func28, Try.ntmps28
  go_wp2_with fail
  refine hA.out.mono ?_
  rintro e w1 ⟨rfl, F1⟩
  have hX := xfr HL.out F1
  have c0 := hX.c0
  obtain ⟨wa, wc, ew, _⟩ := (hX.ent i x Hx.out).wrow.sl
  obtain ⟨g, cap2, hlg, hv, hcap, hg, d0, d1, d2, d3, d4, d5, fz⟩ := hX.row.at Hx.out
  have hE := hX.ent i x Hx.out
  have hXl : Sl w1.drew .u8 (.slice a' X.length cap') X := HX.out.keep (fun b hb _ => F1.block b hb (fun e => e))
  have hrd : Row w1.drew .u8 (.slice wa x.waits.length wc) x.waits (px i).wg := by rw [← ew]; exact hE.wrow.frame (Nat.le_refl _) (fun _ _ => rfl)
  obtain ⟨ti, hi5, hz, h1s, hb⟩ := info5
  obtain ⟨v1, W2, go', hrun, hR, hgr, hgo⟩ := append_row w1.drew 30 30 5 .u8 _ ti Try.underlying30 hi5 hz h1s rfl _ _ _ _ _ hrd hXl (by rw [hb]; omega) (by omega)
  obtain ⟨a1, n1, d1', rfl⟩ := hR.shape
  have hFr : Fr (fun b => own b = some (.wt i)) w1 W2 := ((Fr.drew (fun _ => False) w1).mono (fun _ _ e => e.elim)).trans ((Fr.grown hgr).mono (fun b _ e => hE.wtag b e)) (fun _ _ e => e)
  have k0 : W2.cell? ⟨d, 0, none⟩ = some lv := (World.cell?_of_block (a := ⟨d, 0, none⟩) (hFr.block d (lt_of hX.blk) (fun e => by rw [hX.tag] at e; cases e))).trans c0
  have hgb : W2.heap[g]? = w1.heap[g]? := hFr.block g hg (fun e => by rw [hX.ltag g hlg] at e; cases e)
  have k3 : W2.cell? ⟨g, i * 6 + 3, none⟩ = some (px i).wv := (World.cell?_of_block (a := ⟨g, i * 6 + 3, none⟩) hgb).trans d3
  have kf : W2.frozen? ⟨g, i * 6 + 3, none⟩ = false := (World.frozen?_of_block (a := ⟨g, i * 6 + 3, none⟩) hgb).trans (fz 3 (by omega))
  have fin := hide (Xd.waits hX hlg Hx.out hFr hR hgo hE.wtag)
  have HK := hide (kfr (own := own) F1)
  have Hrun := hide hrun
  rw [hv] at c0 k0
  rw [he] at d2
  rw [ew] at d3 k3
  clear hX hv HL Hx hA F1 fz d0 d1 d4 d5 ew hE hXl hrd hi5 hz h1s hb hrun hR hgr hgo hFr hgb HX
  go_wp2_with fail
  go_region_law (refine step_append_is rfl (.tmp 46) (.tmp 47) 30 rfl (.slice wa x.waits.length wc) (.slice a' X.length cap') (.slice a1 n1 d1') (by simp [Act.eval]) (by simp [Act.eval]) Hrun ?_)
  all_goals go_wp2_with fail
  all_goals go_ret
  all_goals exact ⟨rfl, _, fin.out.1, HK.out.trans fin.out.2⟩

theorem rsent_yes (h : XObj W d S dr own lv lg px dv dg) (hS : SOk S dr) (hx : S[i]? = some x) :
    Calls Try.prog 13 #[.pointer (some ⟨d, 0, none⟩), .int .i64 x.num] W fun e W' => e = .returned (px i).sv ∧ Fr (fun _ => False) W W' := by
  have hf := hide (rfind_any h hS.size x.num)
  have hsz := hS.size
  have hi := (List.getElem?_eq_some_iff.1 hx).1
  have HL := hide h
  have HS := hide hS
  have Hx := hide hx
  clear h hS hx
  go_enter Try.func13, Try.ntmps13
  go_wp2_with fail
  refine hf.out.mono ?_
  rintro e w1 ⟨r, rfl, F1, hr⟩
  rcases hr with ⟨j, y, rfl, hy, hn⟩ | ⟨_, hn⟩
  · obtain ⟨rfl, rfl⟩ := same_num HS.out hy Hx.out hn
    have hX := xfr HL.out F1
    have c0 := hX.c0
    obtain ⟨g, cap2, -, hv, hcap, hg, d0, d1, d2, d3, d4, -⟩ := hX.row.at hy
    rw [hv] at c0
    have HF := hide F1
    clear hX hv hy hn HL HS Hx hf F1 d0 d1 d2 d3
    go_wp2_with fail
    go_ret
    exact ⟨rfl, HF.out⟩
  · exact absurd rfl (hn x (List.mem_of_getElem? Hx.out))
theorem rsent_no (h : XObj W d S dr own lv lg px dv dg) (hS : SOk S dr) (hno : ∀ x ∈ S, x.num ≠ k) :
    Calls Try.prog 13 #[.pointer (some ⟨d, 0, none⟩), .int .i64 k] W fun e W' => e = .returned (.slice none 0 0) ∧ Fr (fun _ => False) W W' := by
  have hf := hide (rfind_any h hS.size k)
  have HN := hide hno
  clear h hS hno
  go_enter Try.func13, Try.ntmps13
  go_wp2_with fail
  refine hf.out.mono ?_
  rintro e w1 ⟨r, rfl, F1, hr⟩
  rcases hr with ⟨j, y, rfl, hy, hn⟩ | ⟨rfl, hn⟩
  · exact absurd hn (HN.out y (List.mem_of_getElem? hy))
  · have HF := hide F1
    clear HN hf F1 hn
    go_wp2_with fail
    go_ret
    exact ⟨rfl, HF.out⟩

theorem XObj.setDraw {dv' : Value} {dg' : Option Nat} (h : XObj W d S dr own lv lg px dv dg) {W' : World} {own' : Nat → Option Tag} {dr' : List Int}
    (hfr : Fr (fun b => own b = some .ob ∨ own b = some .dr) W W') (ho : ∀ b t, own b = some t → own' b = some t) (hlow : ∀ b t, own' b = some t → b < W'.heap.size) (hblk : W'.heap[d]? = some (.cells #[lv, dv'] 29 (0, 0))) (hR : Row W' .i64 dv' dr' dg') (ht : ∀ g, dg' = some g → own' g = some .dr) :
    XObj W' d S dr' own' lv lg px dv' dg' := by
  have keep : ∀ b t, own b = some t → t ≠ .ob → t ≠ .dr → W'.heap[b]? = W.heap[b]? := by
    intro b t e h1 h2
    refine hfr.block b (h.low b t e) ?_
    rw [e]
    rintro (e | e) <;> cases e <;> contradiction
  exact ⟨hblk, ho _ _ h.tag, hlow, hR, ht, h.row.frame hfr.size (fun g e => keep _ _ (h.ltag g e) nofun nofun), fun g e => ho _ _ (h.ltag g e),
    fun i x hx => (h.ent i x hx).frame hfr.size ho (fun _ e => keep _ _ e nofun nofun) (fun _ e => keep _ _ e nofun nofun)⟩
theorem rgive_bad (W : World) (d : Nat) (v : Int) (h : v < 0 ∨ 4294967295 < v) : Calls Try.prog 34 #[.pointer (some ⟨d, 0, none⟩), .int .i64 v] W fun e W' => e = .returned (.int .i64 1) ∧ W = W' := by
  by_cases h0 : v < 0
  · clear h
    go_enter Try.func34, Try.ntmps34
    go_wp2
    go_ret
    exact ⟨rfl, rfl⟩
  · have h1 : 4294967295 < v := by omega
    have h2 : 0 ≤ v := by omega
    clear h h0
    go_enter Try.func34, Try.ntmps34
    go_wp2
    go_ret
    exact ⟨rfl, rfl⟩
set_option maxRecDepth 20000 in
theorem rgive_full (W : World) (d : Nat) (v : Int) (a : Option Addr) (len cap : Nat) (h0 : 0 ≤ v) (h1 : v ≤ 4294967295) (c1 : W.cell? ⟨d, 1, none⟩ = some (.slice a len cap)) (hn : 4096 ≤ len) : Calls Try.prog 34 #[.pointer (some ⟨d, 0, none⟩), .int .i64 v] W fun e W' => e = .returned (.int .i64 5) ∧ W = W' := by
  go_enter Try.func34, Try.ntmps34
  go_wp2
  go_ret
  exact ⟨rfl, rfl⟩
set_option maxRecDepth 20000 in
theorem rgive_x (W : World) (d : Nat) (v : Int) (a : Option Addr) (l : List Int) (cap : Nat) (go : Option Nat) (h0 : 0 ≤ v) (h1 : v ≤ 4294967295) (c1 : W.cell? ⟨d, 1, none⟩ = some (.slice a l.length cap)) (hn : l.length < 4096) (hR : Hid (Row (W.alloc (.cells #[.int .i64 v] 3)) .i64 (.slice a l.length cap) l go))
    (hk : Hid (∀ W', (W.alloc (.cells #[.int .i64 v] 3)).grownBy W' go → (W'.cell? ⟨d, 1, none⟩).isSome = true ∧ W'.frozen? ⟨d, 1, none⟩ = false)) :
    Calls Try.prog 34 #[.pointer (some ⟨d, 0, none⟩), .int .i64 v] W fun e W' => e = .returned (.int .i64 0) ∧ ∃ v' W1 go', Row W1 .i64 v' (l ++ [v]) go' ∧ (W.alloc (.cells #[.int .i64 v] 3)).grownBy W1 go ∧ (go' = go ∨ ∃ g, go' = some g ∧ (W.alloc (.cells #[.int .i64 v] 3)).heap.size ≤ g) ∧ W' = W1.setCell ⟨d, 1, none⟩ v' := by
  have hX : Hid (Sl (W.alloc (.cells #[.int .i64 v] 3)) .i64 (.slice (some ⟨W.heap.size, 0, none⟩) 1 1) [v]) := hide (Row.ofNew W .i64 3 #[.int .i64 v] [v] 1 (Nat.le_refl _) (Nat.le_refl _) (fun i hi => by
    have : i = 0 := by simp at hi; omega
    subst this; rfl)).sl
  go_enter Try.func34, Try.ntmps34
  go_wp2_with (first
    | (at_builtin; refine wpList_append_ints rfl _ _ rfl _ (.slice a l.length cap) (.slice (some ⟨W.heap.size, 0, none⟩) 1 1) l [v] go rfl rfl hR.out hX.out (by simp; omega) ?_
       intro v' W1 go' h1 h2 h3
       obtain ⟨k1, k2⟩ := hk.out W1 h2
       obtain ⟨a1, n1, d1, rfl⟩ := h1.shape
       obtain ⟨u, k1⟩ := Option.isSome_iff_exists.1 k1
       replace h1 := hide h1
       replace h2 := hide h2
       replace h3 := hide h3)
    | go_in)
  go_ret
  exact ⟨rfl, _, _, _, h1.out, h2.out, h3.out, rfl⟩
theorem rgive_any (h : Xd W d S dr own) (v : Int) : Calls Try.prog 34 #[ptr d, .int .i64 v] W fun e W' => e = .returned (.int .i64 (sGive dr v).1) ∧ ∃ own', Xd W' d S (sGive dr v).2 own' ∧ Kp own own' W W' := by
  have hh := h
  unfold sGive
  by_cases hb : v < 0 ∨ 4294967295 < v
  · simp only [if_pos hb]
    refine (rgive_bad W d v hb).mono ?_
    rintro e W' ⟨rfl, rfl⟩
    exact ⟨rfl, own, h, Kp.refl _ _⟩
  simp only [if_neg hb]
  obtain ⟨lv, lg, px, dv, dg, h⟩ := h
  obtain ⟨a, cap, hv, _⟩ := h.drw.sl
  by_cases h1 : 4096 ≤ dr.length
  · simp only [if_pos h1]
    refine (rgive_full W d v a dr.length cap (by omega) (by omega) (by rw [h.c1, hv]) h1).mono ?_
    rintro e W' ⟨rfl, rfl⟩
    exact ⟨rfl, own, hh, Kp.refl _ _⟩
  simp only [if_neg h1]
  have hA := Fr.alloc (fun _ => False) W (.cells #[.int .i64 v] 3)
  have hne : ∀ g t, own g = some t → t ≠ .ob → g ≠ d := fun g t e ht eg => by rw [eg, h.tag] at e; cases e; exact ht rfl
  have hbk : ∀ W', (W.alloc (.cells #[.int .i64 v] 3)).grownBy W' dg → W'.heap[d]? = some (.cells #[lv, dv] 29 (0, 0)) := fun W' hg =>
    (hg.block d (Nat.lt_of_lt_of_le (lt_of h.blk) hA.size) (fun e => hne _ _ (h.dtag _ e.symm) nofun rfl)).trans (hA.hd (fun e => e) h.blk)
  refine (rgive_x W d v a dr cap dg (by omega) (by omega) (by rw [h.c1, hv]) (by omega) (hide (by rw [← hv]; exact h.drw.frame hA.size (fun g e => hA.block g (h.low _ _ (h.dtag g e)) (fun e => e)))) (hide fun W' hg => ⟨by rw [cell_of (hbk W' hg)]; rfl, frozen_of (hbk W' hg) 1⟩)).mono ?_
  rintro e W' ⟨rfl, v', W1, go', hR, hg, hgo, rfl⟩
  have hgo2 : go' = dg ∨ ∃ g, go' = some g ∧ W.heap.size ≤ g := hgo.imp id (fun ⟨g, e1, e2⟩ => ⟨g, e1, Nat.le_trans hA.size e2⟩)
  have hgo' : ∀ g, go' = some g → g ≠ d := by
    intro g e
    rcases hgo2 with h1 | ⟨g', h1, h2⟩
    · exact hne g _ (h.dtag g (by rw [← h1]; exact e)) nofun
    · rw [h1] at e; cases e
      have := lt_of h.blk
      omega
  have hfr : Fr (fun b => dg = some b ∨ b = d) W (W1.setCell ⟨d, 1, none⟩ v') := ((hA.mono (fun _ _ e => e.elim)).trans (Fr.grown hg) (fun _ _ e => .inl e)).trans (Fr.set W1 d 1 v') (fun _ _ e => .inr e)
  have hfr2 : Fr (fun b => own b = some .ob ∨ own b = some .dr) W (W1.setCell ⟨d, 1, none⟩ v') := hfr.mono (fun b _ e => by
    rcases e with e | e
    · exact .inr (h.dtag b e)
    · rw [e]; exact .inl h.tag)
  refine ⟨rfl, more own W.heap.size go' .dr, ⟨lv, lg, px, v', go', h.setDraw hfr2 (more_old h.low _ _) (more_low h.low hfr.size (fun g e => ?_)) ?_ (hR.frame (by simp) (fun g e => hp_set_other _ _ _ _ _ (hgo' g e))) (more_new h.low hgo2 h.dtag)⟩, hfr2.mono (fun b _ e => by rcases e with e | e <;> rw [e] <;> nofun), more_no _ _⟩
  · subst e; simpa using hR.lt
  · rw [hp_set (hbk W1 hg)]; rfl

theorem rdraw_bad (W : World) (d : Nat) (n : Int) (h : n < 1) : Calls Try.prog 35 #[.pointer (some ⟨d, 0, none⟩), .int .i64 n] W fun e W' => e = .returned (.tuple #[.int .i64 0, .int .i64 1]) ∧ W = W' := by
  go_enter Try.func35, Try.ntmps35
  go_wp2
  go_ret2
  exact ⟨rfl, rfl⟩
theorem rdraw_none (W : World) (d : Nat) (n : Int) (h : 1 ≤ n) (a : Option Addr) (cap : Nat) (c1 : W.cell? ⟨d, 1, none⟩ = some (.slice a 0 cap)) : Calls Try.prog 35 #[.pointer (some ⟨d, 0, none⟩), .int .i64 n] W fun e W' => e = .returned (.tuple #[.int .i64 0, .int .i64 0]) ∧ W = W' := by
  go_enter Try.func35, Try.ntmps35
  go_wp2
  go_ret2
  exact ⟨rfl, rfl⟩
theorem rdraw_x (W : World) (d g off len cap : Nat) (n v : Int) (h : 1 ≤ n) (hv : 0 ≤ v) (hv2 : v ≤ 4294967295) (hl : 0 < len) (c1 : W.cell? ⟨d, 1, none⟩ = some (.slice (some ⟨g, off, none⟩) len cap)) (f1 : W.frozen? ⟨d, 1, none⟩ = false) (cv : W.cell? ⟨g, off, none⟩ = some (.int .i64 v)) :
    Calls Try.prog 35 #[.pointer (some ⟨d, 0, none⟩), .int .i64 n] W fun e W' => e = .returned (.tuple #[.int .i64 (v % n), .int .i64 0]) ∧ W' = W.setCell ⟨d, 1, none⟩ (.slice (if cap = 1 then some ⟨g, off, none⟩ else some ⟨g, off + 1, none⟩) (len - 1) (cap - 1)) := by
  have h1 : 1 ≤ len := hl
  have h2 : len ≠ 0 := by omega
  go_enter Try.func35, Try.ntmps35
  go_wp2
  all_goals
    go_ret2
    exact ⟨rfl, rfl⟩
theorem rdraw_any (h : Xd W d S dr own) (hS : SOk S dr) (n : Int) : Calls Try.prog 35 #[ptr d, .int .i64 n] W fun e W' => e = .returned (.tuple #[.int .i64 (sDraw dr n).1.1, .int .i64 (sDraw dr n).1.2]) ∧ ∃ own', Xd W' d S (sDraw dr n).2 own' ∧ Kp own own' W W' := by
  have hh := h
  unfold sDraw
  by_cases hb : n < 1
  · simp only [if_pos hb]
    refine (rdraw_bad W d n hb).mono ?_
    rintro e W' ⟨rfl, rfl⟩
    exact ⟨rfl, own, h, Kp.refl _ _⟩
  simp only [if_neg hb]
  obtain ⟨lv, lg, px, dv, dg, h⟩ := h
  cases dr with
  | nil =>
    obtain ⟨a, cap, hv, _⟩ := h.drw.sl
    refine (rdraw_none W d n (by omega) a cap (by rw [h.c1, hv]; rfl)).mono ?_
    rintro e W' ⟨rfl, rfl⟩
    exact ⟨rfl, own, hh, Kp.refl _ _⟩
  | cons v r =>
    have hvv := hS.dlow v (by simp)
    have hrow := h.drw
    rcases hrow with ⟨_, _, e⟩ | ⟨g, off, cap, e1, e2, h3, h4, h5, h6⟩
    · cases e
    have hrow := h.drw
    rw [e2] at hrow
    have cv : W.cell? ⟨g, off, none⟩ = some (.int .i64 v) := by simpa using h6 0 (by simp)
    refine (rdraw_x W d g off (v :: r).length cap n v (by omega) hvv.1 hvv.2 (by simp) (by rw [h.c1, e2]) (h.fz 1) cv).mono ?_
    rintro e W' ⟨rfl, rfl⟩
    have hd := hrow.drop (m := 1) (by simp)
    have e5 : (if cap = 1 then some (⟨g, off, none⟩ : Addr) else (some (⟨g, off, none⟩ : Addr)).map (·.add 1)) = (if cap = 1 then some ⟨g, off, none⟩ else some ⟨g, off + 1, none⟩) := by
      have : (⟨g, off, none⟩ : Addr).add 1 = ⟨g, off + 1, none⟩ := by unfold Addr.add; split <;> simp_all
      simp [this]
    rw [e5] at hd
    have hne : ∀ g t, own g = some t → t ≠ .ob → g ≠ d := fun g t e ht eg => by rw [eg, h.tag] at e; cases e; exact ht rfl
    have hfr := Fr.set W d 1 (.slice (if cap = 1 then some ⟨g, off, none⟩ else some ⟨g, off + 1, none⟩) ((v :: r).length - 1) (cap - 1))
    have hfr2 := hfr.mono (T := fun b => own b = some .ob ∨ own b = some .dr) (fun b _ e => by rw [e]; exact .inl h.tag)
    refine ⟨rfl, own, ⟨lv, lg, px, _, dg, h.setDraw hfr2 (fun _ _ e => e) (fun b t e => Nat.lt_of_lt_of_le (h.low b t e) hfr.size) ?_ (hd.frame hfr.size (fun g e => hp_set_other _ _ _ _ _ (hne g _ (h.dtag g e) nofun))) h.dtag⟩, hfr2.mono (fun b _ e => by rcases e with e | e <;> rw [e] <;> nofun), fun _ _ e => e⟩
    rw [hp_set h.blk]; rfl
end
end Go.Proofs.Ytpgbpfdgbajhlaa
