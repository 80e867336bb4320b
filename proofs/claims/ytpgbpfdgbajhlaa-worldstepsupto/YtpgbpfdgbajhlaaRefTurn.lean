/- The document's own world: calls upon one connection. -/
import Derived.Test.YtpgbpfdgbajhlaaRef
namespace Go.Proofs.Ytpgbpfdgbajhlaa
open Go.ChangeShapes Go.WideShapes Go.ChangeAt Go.RowKit

theorem rclose_none (W : World) (d : Nat) (k : Int) (hA : Hid (Calls Try.prog 11 #[.pointer (some ⟨d, 0, none⟩), .int .i64 k] W (APost W (-1)))) :
    Calls Try.prog 27 #[.pointer (some ⟨d, 0, none⟩), .int .i64 k] W fun e W' => e = .returned (.int .i64 6) ∧ Fr (fun _ => False) W W' := by
  go_enter Try.func27, Try.ntmps27
  go_wp2_with (go_at_call 11; refine hA.out.mono ?_; rintro e w' ⟨rfl, hF⟩; have HF := hide hF; clear hF)
  go_ret
  exact ⟨rfl, HF.out⟩
theorem rarrive_none (W : World) (d : Nat) (k : Int) (src : Value) (hA : Hid (Calls Try.prog 11 #[.pointer (some ⟨d, 0, none⟩), .int .i64 k] W (APost W (-1)))) :
    Calls Try.prog 28 #[.pointer (some ⟨d, 0, none⟩), .int .i64 k, src] W fun e W' => e = .returned (.int .i64 6) ∧ Fr (fun _ => False) W W' := by
  go_enter Try.func28, Try.ntmps28
  go_wp2_with (go_at_call 11; refine hA.out.mono ?_; rintro e w' ⟨rfl, hF⟩; have HF := hide hF; clear hF)
  go_ret
  exact ⟨rfl, HF.out⟩
theorem rend_none (W : World) (d : Nat) (k : Int) (hA : Hid (Calls Try.prog 11 #[.pointer (some ⟨d, 0, none⟩), .int .i64 k] W (APost W (-1)))) :
    Calls Try.prog 30 #[.pointer (some ⟨d, 0, none⟩), .int .i64 k] W fun e W' => e = .returned (.int .i64 6) ∧ Fr (fun _ => False) W W' := by
  go_enter Try.func30, Try.ntmps30
  go_wp2_with (go_at_call 11; refine hA.out.mono ?_; rintro e w' ⟨rfl, hF⟩; have HF := hide hF; clear hF)
  go_ret
  exact ⟨rfl, HF.out⟩
theorem rread_none (W : World) (d : Nat) (k : Int) (n : Int) (hA : Hid (Calls Try.prog 11 #[.pointer (some ⟨d, 0, none⟩), .int .i64 k] W (APost W (-1)))) :
    Calls Try.prog 31 #[.pointer (some ⟨d, 0, none⟩), .int .i64 k, .int .i64 n] W fun e W' => e = .returned (.tuple #[.slice none 0 0, .int .i64 6]) ∧ Fr (fun _ => False) W W' := by
  go_enter Try.func31, Try.ntmps31
  go_wp2_with (go_at_call 11; refine hA.out.mono ?_; rintro e w' ⟨rfl, hF⟩; have HF := hide hF; clear hF)
  go_ret2
  exact ⟨rfl, HF.out⟩
theorem rroom_none (W : World) (d : Nat) (k : Int) (n : Int) (hA : Hid (Calls Try.prog 11 #[.pointer (some ⟨d, 0, none⟩), .int .i64 k] W (APost W (-1)))) :
    Calls Try.prog 32 #[.pointer (some ⟨d, 0, none⟩), .int .i64 k, .int .i64 n] W fun e W' => e = .returned (.int .i64 6) ∧ Fr (fun _ => False) W W' := by
  go_enter Try.func32, Try.ntmps32
  go_wp2_with (go_at_call 11; refine hA.out.mono ?_; rintro e w' ⟨rfl, hF⟩; have HF := hide hF; clear hF)
  go_ret
  exact ⟨rfl, HF.out⟩
theorem rwrite_none (W : World) (d : Nat) (k : Int) (src : Value) (hA : Hid (Calls Try.prog 11 #[.pointer (some ⟨d, 0, none⟩), .int .i64 k] W (APost W (-1)))) :
    Calls Try.prog 33 #[.pointer (some ⟨d, 0, none⟩), .int .i64 k, src] W fun e W' => e = .returned (.tuple #[.int .i64 0, .int .i64 6]) ∧ Fr (fun _ => False) W W' := by
  go_enter Try.func33, Try.ntmps33
  go_wp2_with (go_at_call 11; refine hA.out.mono ?_; rintro e w' ⟨rfl, hF⟩; have HF := hide hF; clear hF)
  go_ret2
  exact ⟨rfl, HF.out⟩

theorem addr_ne {g a b : Nat} (h : a ≠ b) : (⟨g, a, none⟩ : Addr) ≠ ⟨g, b, none⟩ := fun e => h (by cases e; rfl)

/-- One cell of one connection changes. -/
theorem LRow.set {W : World} {lv : Value} {S : List Cn} {px : Nat → Ph} {g : Nat} (h : LRow W lv S px (some g)) {i : Nat} {x x' : Cn} {p' : Ph} (hx : S[i]? = some x) (k : Nat) (hk : k < 6) (v : Value) (hv : xcells x' p' = (xcells x (px i)).set k v) :
    LRow (W.setCell ⟨g, i * 6 + k, none⟩ v) lv (S.set i x') (fun j => if j = i then p' else px j) (some g) := by
  have hi : i < S.length := (List.getElem?_eq_some_iff.1 hx).1
  rcases h with ⟨h, _⟩ | ⟨g', cap, e, rfl, h1, h2, h3, h4⟩
  · cases h
  cases e
  refine .inr ⟨g, cap, rfl, by rw [List.length_set], by rw [List.length_set]; exact h1, by simpa using h2, fun j hj => ⟨?_, by rw [World.frozen?_setCell]; exact (h3 j hj).2⟩, fun j y hy q hq => ?_⟩
  · by_cases e : i * 6 + k = j
    · subst e
      rw [World.cell?_setCell_same' _ _ _ (h3 _ hj).1]; rfl
    · rw [World.cell?_setCell_other _ _ _ _ (addr_ne e)]; exact (h3 j hj).1
  · rw [List.getElem?_set] at hy
    by_cases hj : i = j
    · subst hj
      rw [if_pos rfl, if_pos hi] at hy
      cases hy
      simp only [if_true]
      rw [hv]
      by_cases e : k = q
      · subst e
        rw [World.cell?_setCell_same' _ _ _ (h3 _ (by omega)).1, List.getElem?_set_self (by simpa [xcells] using hk)]
      · rw [World.cell?_setCell_other _ _ _ _ (addr_ne (by omega)), List.getElem?_set_ne e]
        exact h4 i x hx q hq
    · rw [if_neg hj] at hy
      simp only [if_neg (fun e => hj (Eq.symm e))]
      rw [World.cell?_setCell_other _ _ _ _ (addr_ne (by omega))]
      exact h4 j y hy q hq

section
variable {W : World} {d : Nat} {S : List Cn} {dr : List Int} {own : Nat → Option Tag} {lv : Value} {lg : Option Nat} {px : Nat → Ph} {dv : Value} {dg : Option Nat} {k : Int} {i : Nat} {x : Cn}

theorem XObj.turn (h : XObj W d S dr own lv lg px dv dg) {W' : World} {own' : Nat → Option Tag} {x' : Cn} {p' : Ph} (hil : i < S.length)
    (hfr : Fr (fun b => own b = some .om ∨ own b = some (.wt i) ∨ own b = some (.st i)) W W') (ho : ∀ b t, own b = some t → own' b = some t) (hlow : ∀ b t, own' b = some t → b < W'.heap.size) (hrow : LRow W' lv (S.set i x') (fun j => if j = i then p' else px j) lg) (he : XEnt W' own' i x' p') :
    XObj W' d (S.set i x') dr own' lv lg (fun j => if j = i then p' else px j) dv dg := by
  have keep : ∀ b t, own b = some t → t ≠ .om → t ≠ .wt i → t ≠ .st i → W'.heap[b]? = W.heap[b]? := by
    intro b t e h1 h2 h3
    refine hfr.block b (h.low b t e) ?_
    rw [e]
    rintro (e | e | e) <;> cases e <;> contradiction
  refine ⟨(keep _ _ h.tag nofun nofun nofun).trans h.blk, ho _ _ h.tag, hlow, h.drw.frame hfr.size (fun g hg => keep _ _ (h.dtag g hg) nofun nofun nofun), fun g hg => ho _ _ (h.dtag g hg), hrow, fun g hg => ho _ _ (h.ltag g hg), ?_⟩
  intro j y hy
  rw [List.getElem?_set] at hy
  by_cases hj : i = j
  · subst hj
    rw [if_pos rfl, if_pos hil] at hy
    cases hy
    simpa using he
  · rw [if_neg hj] at hy
    simp only [if_neg (fun e => hj (Eq.symm e))]
    exact (h.ent j y hy).frame hfr.size ho (fun _ e => keep _ _ e nofun (by intro e; cases e; exact hj rfl) nofun) (fun _ e => keep _ _ e nofun nofun (by intro e; cases e; exact hj rfl))

/-- A plain cell of one connection changes. -/
theorem Xd.cell (h : XObj W d S dr own lv lg px dv dg) {g : Nat} (hg : lg = some g) {x' : Cn} (hx : S[i]? = some x) (q : Nat) (hq : q < 6) (v : Value) (hv : xcells x' (px i) = (xcells x (px i)).set q v) (hw : x'.waits = x.waits) (hs : x'.sent = x.sent) :
    Xd (W.setCell ⟨g, i * 6 + q, none⟩ v) d (S.set i x') dr own ∧ Kp own own W (W.setCell ⟨g, i * 6 + q, none⟩ v) := by
  subst hg
  have hfr := Fr.set W g (i * 6 + q) v
  have hil : i < S.length := (List.getElem?_eq_some_iff.1 hx).1
  have hfr2 := hfr.mono (T := fun b => own b = some .om ∨ own b = some (.wt i) ∨ own b = some (.st i)) (fun b _ e => by rw [e]; exact .inl (h.ltag g rfl))
  have hne : ∀ b t, own b = some t → t ≠ .om → b ≠ g := fun b t e ht eb => by rw [eb, h.ltag g rfl] at e; cases e; exact ht rfl
  have hE := h.ent i x hx
  refine ⟨⟨lv, some g, _, dv, dg, h.turn hil hfr2 (fun _ _ e => e) (fun b t e => Nat.lt_of_lt_of_le (h.low b t e) hfr.size) (h.row.set hx q hq v hv) ⟨?_, hE.wtag, ?_, hE.stag⟩⟩, hfr2.mono (fun b _ e => by rcases e with e | e | e <;> rw [e] <;> nofun), fun _ _ e => e⟩
  · rw [hw]; exact hE.wrow.frame hfr.size (fun b e => hp_set_other _ _ _ _ _ (hne b _ (hE.wtag b e) nofun))
  · rw [hs]; exact hE.srow.frame hfr.size (fun b e => hp_set_other _ _ _ _ _ (hne b _ (hE.stag b e) nofun))

theorem xfr {W1 : World} (h : XObj W d S dr own lv lg px dv dg) (F : Fr (fun _ => False) W W1) : XObj W1 d S dr own lv lg px dv dg := h.frame F.size (fun b t e => F.block b (h.low b t e) (fun e => e))
theorem kfr {W1 : World} (F : Fr (fun _ => False) W W1) : Kp own own W W1 := ⟨F.mono (fun _ _ e => e.elim), fun _ _ e => e⟩

theorem rclose_yes (h : XObj W d S dr own lv lg px dv dg) (hS : SOk S dr) (hx : S[i]? = some x) (hop : x.isOpen = true) :
    Calls Try.prog 27 #[.pointer (some ⟨d, 0, none⟩), .int .i64 x.num] W fun e W' => e = .returned (.int .i64 0) ∧ Xd W' d (S.set i { x with isOpen := false }) dr own ∧ Kp own own W W' := by
  have hA := hide (rat_yes h hS hx hop)
  have hsz := hS.size
  have hi := (List.getElem?_eq_some_iff.1 hx).1
  have HL := hide h
  have Hx := hide hx
  clear h hS hx
  go_enter Try.func27, Try.ntmps27
  go_wp2_with fail
  refine hA.out.mono ?_
  rintro e w1 ⟨rfl, F1⟩
  have hX := xfr HL.out F1
  have c0 := hX.c0
  obtain ⟨g, cap2, hlg, hv, hcap, hg, d0, d1, d2, d3, d4, d5, fz⟩ := hX.row.at Hx.out
  rw [hv] at c0
  have f1 := fz 1 (by omega)
  have fin := hide (Xd.cell hX hlg (x' := { x with isOpen := false }) Hx.out 1 (by omega) (.bool false) rfl rfl rfl)
  have HK := hide (kfr (own := own) F1)
  clear hX hv HL Hx hA F1 fz d0 d2 d3 d4 d5
  go_wp2_with fail
  go_ret
  exact ⟨rfl, fin.out.1, HK.out.trans fin.out.2⟩
theorem rend_yes (h : XObj W d S dr own lv lg px dv dg) (hS : SOk S dr) (hx : S[i]? = some x) (hop : x.isOpen = true) :
    Calls Try.prog 30 #[.pointer (some ⟨d, 0, none⟩), .int .i64 x.num] W fun e W' => e = .returned (.int .i64 0) ∧ Xd W' d (S.set i { x with ended := true }) dr own ∧ Kp own own W W' := by
  have hA := hide (rat_yes h hS hx hop)
  have hsz := hS.size
  have hi := (List.getElem?_eq_some_iff.1 hx).1
  have HL := hide h
  have Hx := hide hx
  clear h hS hx
  go_enter Try.func30, Try.ntmps30
  go_wp2_with fail
  refine hA.out.mono ?_
  rintro e w1 ⟨rfl, F1⟩
  have hX := xfr HL.out F1
  have c0 := hX.c0
  obtain ⟨g, cap2, hlg, hv, hcap, hg, d0, d1, d2, d3, d4, d5, fz⟩ := hX.row.at Hx.out
  rw [hv] at c0
  have f1 := fz 2 (by omega)
  have fin := hide (Xd.cell hX hlg (x' := { x with ended := true }) Hx.out 2 (by omega) (.bool true) rfl rfl rfl)
  have HK := hide (kfr (own := own) F1)
  clear hX hv HL Hx hA F1 fz d0 d1 d3 d4 d5
  go_wp2_with fail
  go_ret
  exact ⟨rfl, fin.out.1, HK.out.trans fin.out.2⟩
theorem rroom_bad (h : XObj W d S dr own lv lg px dv dg) (hS : SOk S dr) (hx : S[i]? = some x) (hop : x.isOpen = true) {n : Int} (hn : n < 0) :
    Calls Try.prog 32 #[.pointer (some ⟨d, 0, none⟩), .int .i64 x.num, .int .i64 n] W fun e W' => e = .returned (.int .i64 1) ∧ Fr (fun _ => False) W W' := by
  have hA := hide (rat_yes h hS hx hop)
  have hsz := hS.size
  have hi := (List.getElem?_eq_some_iff.1 hx).1
  clear h hS hx
  go_enter Try.func32, Try.ntmps32
  go_wp2_with (go_at_call 11; refine hA.out.mono ?_; rintro e w' ⟨rfl, hF⟩; have HF := hide hF; clear hF)
  go_ret
  exact ⟨rfl, HF.out⟩
theorem rroom_yes (h : XObj W d S dr own lv lg px dv dg) (hS : SOk S dr) (hx : S[i]? = some x) (hop : x.isOpen = true) {n : Int} (hn : 0 ≤ n) :
    Calls Try.prog 32 #[.pointer (some ⟨d, 0, none⟩), .int .i64 x.num, .int .i64 n] W fun e W' => e = .returned (.int .i64 0) ∧ Xd W' d (S.set i { x with room := min 1048576 (x.room + n) }) dr own ∧ Kp own own W W' := by
  have hA := hide (rat_yes h hS hx hop)
  have hsz := hS.size
  have hi := (List.getElem?_eq_some_iff.1 hx).1
  have hr := hS.rm x (List.mem_of_getElem? hx)
  have hr0 := hr.1
  have hr1 := hr.2
  have HL := hide h
  have Hx := hide hx
  clear h hS hx hr
  go_enter Try.func32, Try.ntmps32
  go_wp2_with fail
  refine hA.out.mono ?_
  rintro e w1 ⟨rfl, F1⟩
  have hX := xfr HL.out F1
  have c0 := hX.c0
  obtain ⟨g, cap2, hlg, hv, hcap, hg, d0, d1, d2, d3, d4, d5, fz⟩ := hX.row.at Hx.out
  rw [hv] at c0
  have f1 := fz 5 (by omega)
  have HK := hide (kfr (own := own) F1)
  have hXH := hide hX
  clear hX hv HL hA F1 fz d0 d1 d2 d3 d4
  by_cases hb : 1048576 < n
  · have e1 : (1048576 : Int) = min 1048576 (x.room + n) := by omega
    have fin := hide (Xd.cell hXH.out hlg (x' := { x with room := min 1048576 (x.room + n) }) Hx.out 5 (by omega) (.int .i64 (min 1048576 (x.room + n))) rfl rfl rfl)
    rw [← e1] at fin
    clear e1 hXH Hx
    go_wp2_with fail
    go_ret
    exact ⟨rfl, by rw [show min 1048576 (x.room + n) = 1048576 by omega]; exact fin.out.1, HK.out.trans fin.out.2⟩
  · have hb' : n ≤ 1048576 := by omega
    clear hb
    by_cases hc : 1048576 < x.room + n
    · have e1 : (1048576 : Int) = min 1048576 (x.room + n) := by omega
      have fin := hide (Xd.cell hXH.out hlg (x' := { x with room := min 1048576 (x.room + n) }) Hx.out 5 (by omega) (.int .i64 (min 1048576 (x.room + n))) rfl rfl rfl)
      rw [← e1] at fin
      clear e1 hXH Hx
      go_wp2_with fail
      go_ret
      exact ⟨rfl, by rw [show min 1048576 (x.room + n) = 1048576 by omega]; exact fin.out.1, HK.out.trans fin.out.2⟩
    · have hc' : x.room + n ≤ 1048576 := by omega
      clear hc
      have fin := hide (Xd.cell hXH.out hlg (x' := { x with room := x.room + n }) Hx.out 5 (by omega) (.int .i64 (x.room + n)) rfl rfl rfl)
      clear hXH Hx
      go_wp2_with fail
      go_region
      go_wp2_with fail
      go_ret
      have e2 : min 1048576 (x.room + n) = x.room + n := by omega
      rw [e2]
      exact ⟨rfl, fin.out.1.frame (Nat.le_refl _) (fun _ _ _ => rfl), (HK.out.trans fin.out.2).trans ⟨Fr.drew _ _, fun _ _ e => e⟩⟩
theorem rarrive_ended (h : XObj W d S dr own lv lg px dv dg) (hS : SOk S dr) (hx : S[i]? = some x) (hop : x.isOpen = true) (he : x.ended = true) (src : Value) :
    Calls Try.prog 28 #[.pointer (some ⟨d, 0, none⟩), .int .i64 x.num, src] W fun e W' => e = .returned (.int .i64 7) ∧ Fr (fun _ => False) W W' := by
  have hA := hide (rat_yes h hS hx hop)
  have hsz := hS.size
  have hi := (List.getElem?_eq_some_iff.1 hx).1
  have HL := hide h
  have Hx := hide hx
  clear h hS hx
  go_enter Try.func28, Try.ntmps28
  go_wp2_with fail
  refine hA.out.mono ?_
  rintro e w1 ⟨rfl, F1⟩
  have hX := xfr HL.out F1
  have c0 := hX.c0
  obtain ⟨g, cap2, hlg, hv, hcap, hg, d0, d1, d2, d3, d4, d5, fz⟩ := hX.row.at Hx.out
  rw [hv] at c0
  rw [he] at d2
  have HF := hide F1
  clear hX hv HL Hx hA F1 fz d0 d1 d3 d4 d5
  go_wp2_with fail
  go_ret
  exact ⟨rfl, HF.out⟩
theorem rarrive_long (h : XObj W d S dr own lv lg px dv dg) (hS : SOk S dr) (hx : S[i]? = some x) (hop : x.isOpen = true) (he : x.ended = false) (a' : Option Addr) (len' cap' : Nat) (hl : len' ≤ 140737488355328) (hlong : 1048576 < x.waits.length + len') :
    Calls Try.prog 28 #[.pointer (some ⟨d, 0, none⟩), .int .i64 x.num, .slice a' len' cap'] W fun e W' => e = .returned (.int .i64 2) ∧ Fr (fun _ => False) W W' := by
  have hA := hide (rat_yes h hS hx hop)
  have hsz := hS.size
  have hwl := hS.wlen x (List.mem_of_getElem? hx)
  have hi := (List.getElem?_eq_some_iff.1 hx).1
  have HL := hide h
  have Hx := hide hx
  clear h hS hx
  go_enter Try.func28, Try.ntmps28
  go_wp2_with fail
  refine hA.out.mono ?_
  rintro e w1 ⟨rfl, F1⟩
  have hX := xfr HL.out F1
  have c0 := hX.c0
  obtain ⟨wa, wc, ew, _⟩ := (hX.ent i x Hx.out).wrow.sl
  obtain ⟨g, cap2, hlg, hv, hcap, hg, d0, d1, d2, d3, d4, d5, fz⟩ := hX.row.at Hx.out
  rw [hv] at c0
  rw [he] at d2
  rw [ew] at d3
  have HF := hide F1
  clear hX hv HL Hx hA F1 fz d0 d1 d4 d5 ew
  go_wp2_with fail
  go_ret
  exact ⟨rfl, HF.out⟩
end
end Go.Proofs.Ytpgbpfdgbajhlaa
