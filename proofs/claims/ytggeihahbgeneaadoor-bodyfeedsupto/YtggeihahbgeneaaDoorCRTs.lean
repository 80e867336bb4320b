/- The document's trailers, all of them. -/
import Derived.Test.YtggeihahbgeneaaDoorCRT
namespace Go.Proofs.YtggeihahbgeneaaDoor
open Go.ChangeShapes Go.WideShapes Go.ChangeAt Go.RowKit

theorem Bl.low {w x y : World} {L : List (Array Value × TypeId)} (h : Bl w x L) {base : Nat} (hb : w.heap.size + L.length ≤ base) (b : Below base x y) : Bl w y L :=
  ⟨fun i c t hi => (b.block _ (by have := (List.getElem?_eq_some_iff.1 hi).1; omega)).trans (h.hp i c t hi), h.b.trans (b.mono (by omega))⟩
theorem FRow.setOld {W : World} {base : Nat} {v : Value} {A : List (ByteArray × ByteArray)} (h : FRow W base v A) {g : Nat} (hg : g < base) (i : Nat) (u : Value) : FRow (W.setCell ⟨g, i, none⟩ u) base v A :=
  h.frame fun k hk => Below.heap_setCell W ⟨g, i, none⟩ u k (by have := (h.lt hk).1; simp; omega)
theorem FRow.lower {W : World} {base base2 : Nat} {v : Value} {A : List (ByteArray × ByteArray)} (h : FRow W base v A) (hb : base2 ≤ base) : FRow W base2 v A := by
  refine ⟨h.1, ?_⟩
  rcases h.2 with x | ⟨g, cap, cur, rfl, h1, r⟩
  · exact .inl x
  · exact .inr ⟨g, cap, cur, rfl, Nat.le_trans hb h1, r⟩
theorem lineR_pos : ∀ (l acc : List UInt8) (en : Bool) {k : Nat} {s : Option (List UInt8)}, lineR acc en l = some (k, s) → 1 ≤ k ∧ k ≤ l.length
  | [], acc, en, k, s, h => by rw [lineR] at h; cases h
  | c :: r, acc, en, k, s, h => by
    rw [lineR] at h
    rw [List.length_cons]
    have map1 : ∀ {x : Option (Nat × Option (List UInt8))}, (x.map fun p => (p.1 + 1, p.2)) = some (k, s) → ∃ k', x = some (k', s) ∧ k = k' + 1 := by
      intro x hx
      cases x with
      | none => cases hx
      | some p =>
        simp only [Option.map_some, Option.some.injEq, Prod.mk.injEq] at hx
        exact ⟨p.1, by rw [← hx.2], hx.1.symm⟩
    split at h
    · simp only [Option.some.injEq, Prod.mk.injEq] at h; omega
    · split at h
      · simp only [Option.some.injEq, Prod.mk.injEq] at h; omega
      · split at h
        · obtain ⟨k', h1, h2⟩ := map1 h
          have := lineR_pos r _ _ h1
          omega
        · split at h
          · simp only [Option.some.injEq, Prod.mk.injEq] at h; omega
          · obtain ⟨k', h1, h2⟩ := map1 h
            have := lineR_pos r _ _ h1
            omega
theorem lineR_size : ∀ (l acc : List UInt8) (en : Bool) {k : Nat} {s : List UInt8}, acc.length ≤ 8192 → lineR acc en l = some (k, some s) → s.length ≤ 8192
  | [], acc, en, k, s, _, h => by rw [lineR] at h; cases h
  | c :: r, acc, en, k, s, ha, h => by
    rw [lineR] at h
    have map1 : ∀ {x : Option (Nat × Option (List UInt8))}, (x.map fun p => (p.1 + 1, p.2)) = some (k, some s) → ∃ k', x = some (k', some s) := by
      intro x hx
      cases x with
      | none => cases hx
      | some p =>
        simp only [Option.map_some, Option.some.injEq, Prod.mk.injEq] at hx
        exact ⟨p.1, by rw [← hx.2]⟩
    split at h
    · cases h
    · split at h
      · simp only [Option.some.injEq, Prod.mk.injEq] at h
        rw [← h.2]; exact ha
      · split at h
        · obtain ⟨k', h1⟩ := map1 h
          exact lineR_size r _ _ ha h1
        · split at h
          · cases h
          · obtain ⟨k', h1⟩ := map1 h
            exact lineR_size r _ _ (by rw [List.length_append, List.length_singleton]; omega) h1
def nOf (g : Nat) (w : World) : Nat := match w.cell? ⟨g, 2, none⟩ with
  | some (.int _ n) => n.toNat
  | _ => 0
theorem nOf_eq {g : Nat} {w : World} {n : Nat} (h : w.cell? ⟨g, 2, none⟩ = some (.int .i64 (n : Int))) : nOf g w = n := by unfold nOf; rw [h]; simp
def rdV (ov tv : Value) (n : Nat) (wh : Bool) (e : Nat) : Value := .agg #[ov, tv, .int .i64 (n : Int), .bool wh, .int .i64 (e : Int)]
set_option maxHeartbeats 16000000 in
set_option maxRecDepth 100000 in
theorem rtrailers_any {most n room : Nat} {b o : List UInt8} (oa : Option Addr) (on oc : Nat) (v : Value) (w : World) (hB : Bs w w.heap.size v b) (hA : At most b n o (stT room [])) (hl : b.length ≤ 70368744177664) :
    Calls Tryd.prog 25 #[.agg #[.slice oa on oc, .slice none 0 0, .int .i64 (n : Int), .bool false, .int .i64 0], v] w fun e w' => ∃ tv t N wh E, e = .returned (rdV (.slice oa on oc) tv N wh E) ∧ Fin' most b o t N wh E ∧ FRow w' w.heap.size tv t ∧ Below w.heap.size w w' := by
  have HB := hide hB
  obtain ⟨va, vc, rfl, _, _⟩ := hB
  have HA := hide hA
  have hn := hA.le
  clear hA
  unfold rdV
  go_enter Tryd.func25, Tryd.ntmps25
  go_wp2_with fail
  have T0 := hide (Bl.two w #[.slice oa on oc, .slice none 0 0, .int .i64 (n : Int), .bool false, .int .i64 0] 34 #[.slice none 0 0, .slice none 0 0, .int .i64 0, .bool false, .int .i64 0] 34)
  have hxs : ((w.alloc (.cells #[.slice oa on oc, .slice none 0 0, .int .i64 (n : Int), .bool false, .int .i64 0] 34)).alloc (.cells #[.slice none 0 0, .slice none 0 0, .int .i64 0, .bool false, .int .i64 0] 34)).heap.size = w.heap.size + 2 := by simp
  generalize ((w.alloc (.cells #[.slice oa on oc, .slice none 0 0, .int .i64 (n : Int), .bool false, .int .i64 0] 34)).alloc (.cells #[.slice none 0 0, .slice none 0 0, .int .i64 0, .bool false, .int .i64 0] 34)) = x at T0 hxs ⊢
  have HXS := hide hxs
  clear hxs
  go_loopw [5] (fun lv wr => ∃ (k : Nat) (l : List (ByteArray × ByteArray)) (la : Option Addr) (ln lc : Nat), lv = .slice la ln lc ∧ k ≤ b.length ∧ Hid (At most b k o (stT room l)) ∧ Hid (l.length ≤ 100) ∧ Hid (w.heap.size + 2 ≤ wr.heap.size) ∧ Hid (FRow wr (w.heap.size + 2) (.slice la ln lc) l) ∧ Hid (Bl w wr [(#[.slice oa on oc, .slice none 0 0, .int .i64 (k : Int), .bool false, .int .i64 0], 34), (#[.slice none 0 0, .slice none 0 0, .int .i64 0, .bool false, .int .i64 0], 34)])) (fun _ wr => b.length - nOf w.heap.size wr)
  case atStart => exact ⟨n, [], none, 0, 0, rfl, hn, HA, hide (Nat.zero_le _), hide (Nat.le_of_eq HXS.out.symm), hide (FRow.nil _ _), T0⟩
  case round =>
    obtain ⟨k, l, la, ln, lc, rfl, hk, HAk, HLL, HSZ, HR, T1⟩ := hrel
    have HNO : Hid (nOf w.heap.size wr = k) := hide (nOf_eq (T1.out.cell 0 rfl 2))
    have RWT1 := HR
    have ZT1 := HSZ
    obtain ⟨la', lc', hle, _, _⟩ := HR.out.shape
    simp only [Value.slice.injEq] at hle
    obtain ⟨rfl, rfl, rfl⟩ := hle
    have s2 : wr.cell? ⟨w.heap.size, 2, none⟩ = some (.int .i64 (k : Int)) := T1.out.cell 0 rfl 2
    have HBW := hide (HB.out.below (Nat.le_trans (Nat.le_add_right _ 2) HSZ.out) T1.out.b)
    have HLN := hide (rline_any (.slice va b.length vc) b k wr (HBW.out) hk hl)
    have HXX := hide (rfl : lnX b k = lnX b k)
    obtain ⟨⟨ls, lnn, lw, le⟩, hX⟩ : ∃ X, lnX b k = X := ⟨_, rfl⟩
    rw [hX] at HLN
    have HX := hide hX
    clear hX HXX HR
    dsimp only at HLN
    go_upto_region 3 with (go_at_call 23; refine HLN.out.mono ?_; rintro e w1 ⟨rfl, rfl⟩)
    clear s2 HLN
    have s2 : wr.cell? ⟨w.heap.size, 2, none⟩ = some (.int .i64 (k : Int)) := T1.out.cell 0 rfl 2
    have f2 : wr.frozen? ⟨w.heap.size, 2, none⟩ = false := T1.out.fr 0 rfl 2
    go_upto_region 4 with fail
    clear s2 f2
    have T2 : Hid (Bl w (wr.setCell ⟨w.heap.size, 2, none⟩ (.int .i64 (lnn : Int))) [(#[.slice oa on oc, .slice none 0 0, .int .i64 (lnn : Int), .bool false, .int .i64 0], 34), (#[.slice none 0 0, .slice none 0 0, .int .i64 0, .bool false, .int .i64 0], 34)]) := hide (T1.out.set 0 rfl 2 (.int .i64 (lnn : Int)))
    have RWT2 := hide (RWT1.out.setOld (g := w.heap.size) (by omega) 2 (.int .i64 (lnn : Int)))
    have ZT2 : Hid (w.heap.size + 2 ≤ (wr.setCell ⟨w.heap.size, 2, none⟩ (.int .i64 (lnn : Int))).heap.size) := hide (by simpa using ZT1.out)
    generalize wr.setCell ⟨w.heap.size, 2, none⟩ (.int .i64 (lnn : Int)) = x1 at T2 RWT2 ZT2 ⊢
    clear T1 RWT1 ZT1
    have s4 : x1.cell? ⟨w.heap.size, 4, none⟩ = some (.int .i64 0) := T2.out.cell 0 rfl 4
    have f4 : x1.frozen? ⟨w.heap.size, 4, none⟩ = false := T2.out.fr 0 rfl 4
    go_upto_region 5 with fail
    clear s4 f4
    have T3 : Hid (Bl w (x1.setCell ⟨w.heap.size, 4, none⟩ (.int .i64 (le : Int))) [(#[.slice oa on oc, .slice none 0 0, .int .i64 (lnn : Int), .bool false, .int .i64 (le : Int)], 34), (#[.slice none 0 0, .slice none 0 0, .int .i64 0, .bool false, .int .i64 0], 34)]) := hide (T2.out.set 0 rfl 4 (.int .i64 (le : Int)))
    have RWT3 := hide (RWT2.out.setOld (g := w.heap.size) (by omega) 4 (.int .i64 (le : Int)))
    have ZT3 : Hid (w.heap.size + 2 ≤ (x1.setCell ⟨w.heap.size, 4, none⟩ (.int .i64 (le : Int))).heap.size) := hide (by simpa using ZT2.out)
    generalize x1.setCell ⟨w.heap.size, 4, none⟩ (.int .i64 (le : Int)) = x2 at T3 RWT3 ZT3 ⊢
    clear T2 RWT2 ZT2
    cases hR : lineR [] false (b.drop k) with
    | none =>
      have hx := HX.out
      rw [lnX_none hR] at hx
      simp only [Prod.mk.injEq] at hx
      obtain ⟨rfl, rfl, rfl, rfl⟩ := hx
      have HF := hide (HAk.out.part (fun e => fn_ne.2.2 e.symm) rfl rfl hR)
      clear hR HX
      have s0 : x2.cell? ⟨w.heap.size, 0, none⟩ = some (.slice oa on oc) := T3.out.cell 0 rfl 0
      have s1 : x2.cell? ⟨w.heap.size, 1, none⟩ = some (.slice none 0 0) := T3.out.cell 0 rfl 1
      have s2 : x2.cell? ⟨w.heap.size, 2, none⟩ = some (.int .i64 (b.length : Int)) := T3.out.cell 0 rfl 2
      have s3 : x2.cell? ⟨w.heap.size, 3, none⟩ = some (.bool false) := T3.out.cell 0 rfl 3
      have s4 : x2.cell? ⟨w.heap.size, 4, none⟩ = some (.int .i64 0) := T3.out.cell 0 rfl 4
      have r0 : x2.cell? ⟨w.heap.size + 1, 0, none⟩ = some (.slice none 0 0) := T3.out.cell 1 rfl 0
      have r1 : x2.cell? ⟨w.heap.size + 1, 1, none⟩ = some (.slice none 0 0) := T3.out.cell 1 rfl 1
      have r2 : x2.cell? ⟨w.heap.size + 1, 2, none⟩ = some (.int .i64 0) := T3.out.cell 1 rfl 2
      have r3 : x2.cell? ⟨w.heap.size + 1, 3, none⟩ = some (.bool false) := T3.out.cell 1 rfl 3
      have r4 : x2.cell? ⟨w.heap.size + 1, 4, none⟩ = some (.int .i64 0) := T3.out.cell 1 rfl 4
      have f0 : x2.frozen? ⟨w.heap.size + 1, 0, none⟩ = false := T3.out.fr 1 rfl 0
      have f1 : x2.frozen? ⟨w.heap.size + 1, 1, none⟩ = false := T3.out.fr 1 rfl 1
      have f2 : x2.frozen? ⟨w.heap.size + 1, 2, none⟩ = false := T3.out.fr 1 rfl 2
      have f3 : x2.frozen? ⟨w.heap.size + 1, 3, none⟩ = false := T3.out.fr 1 rfl 3
      have f4 : x2.frozen? ⟨w.heap.size + 1, 4, none⟩ = false := T3.out.fr 1 rfl 4
      go_wp2_with fail
      have E0 : Hid (Bl w (x2.setCell ⟨w.heap.size + 1, 0, none⟩ (.slice oa on oc)) [(#[.slice oa on oc, .slice none 0 0, .int .i64 (b.length : Int), .bool false, .int .i64 0], 34), (#[.slice oa on oc, .slice none 0 0, .int .i64 0, .bool false, .int .i64 0], 34)]) := hide (T3.out.set 1 rfl 0 (.slice oa on oc))
      have E1 : Hid (Bl w ((x2.setCell ⟨w.heap.size + 1, 0, none⟩ (.slice oa on oc)).setCell ⟨w.heap.size + 1, 1, none⟩ (.slice none 0 0)) [(#[.slice oa on oc, .slice none 0 0, .int .i64 (b.length : Int), .bool false, .int .i64 0], 34), (#[.slice oa on oc, .slice none 0 0, .int .i64 0, .bool false, .int .i64 0], 34)]) := hide (E0.out.set 1 rfl 1 (.slice none 0 0))
      have E2 : Hid (Bl w (((x2.setCell ⟨w.heap.size + 1, 0, none⟩ (.slice oa on oc)).setCell ⟨w.heap.size + 1, 1, none⟩ (.slice none 0 0)).setCell ⟨w.heap.size + 1, 2, none⟩ (.int .i64 (b.length : Int))) [(#[.slice oa on oc, .slice none 0 0, .int .i64 (b.length : Int), .bool false, .int .i64 0], 34), (#[.slice oa on oc, .slice none 0 0, .int .i64 (b.length : Int), .bool false, .int .i64 0], 34)]) := hide (E1.out.set 1 rfl 2 (.int .i64 (b.length : Int)))
      have E3 : Hid (Bl w ((((x2.setCell ⟨w.heap.size + 1, 0, none⟩ (.slice oa on oc)).setCell ⟨w.heap.size + 1, 1, none⟩ (.slice none 0 0)).setCell ⟨w.heap.size + 1, 2, none⟩ (.int .i64 (b.length : Int))).setCell ⟨w.heap.size + 1, 3, none⟩ (.bool false)) [(#[.slice oa on oc, .slice none 0 0, .int .i64 (b.length : Int), .bool false, .int .i64 0], 34), (#[.slice oa on oc, .slice none 0 0, .int .i64 (b.length : Int), .bool false, .int .i64 0], 34)]) := hide (E2.out.set 1 rfl 3 (.bool false))
      have E4 : Hid (Bl w (((((x2.setCell ⟨w.heap.size + 1, 0, none⟩ (.slice oa on oc)).setCell ⟨w.heap.size + 1, 1, none⟩ (.slice none 0 0)).setCell ⟨w.heap.size + 1, 2, none⟩ (.int .i64 (b.length : Int))).setCell ⟨w.heap.size + 1, 3, none⟩ (.bool false)).setCell ⟨w.heap.size + 1, 4, none⟩ (.int .i64 0)) [(#[.slice oa on oc, .slice none 0 0, .int .i64 (b.length : Int), .bool false, .int .i64 0], 34), (#[.slice oa on oc, .slice none 0 0, .int .i64 (b.length : Int), .bool false, .int .i64 0], 34)]) := hide (E3.out.set 1 rfl 4 (.int .i64 0))
      have EB : Hid (Below x2.heap.size x2 x2) := hide (Below.refl _ _)
      clear s0 r0 f0 s1 r1 f1 s2 r2 f2 s3 r3 f3 s4 r4 f4 EB E0 E1 E2 E3
      generalize (((((x2.setCell ⟨w.heap.size + 1, 0, none⟩ (.slice oa on oc)).setCell ⟨w.heap.size + 1, 1, none⟩ (.slice none 0 0)).setCell ⟨w.heap.size + 1, 2, none⟩ (.int .i64 (b.length : Int))).setCell ⟨w.heap.size + 1, 3, none⟩ (.bool false)).setCell ⟨w.heap.size + 1, 4, none⟩ (.int .i64 0)) = w9 at E4 ⊢
      have q0 : w9.cell? ⟨w.heap.size + 1, 0, none⟩ = some (.slice oa on oc) := E4.out.cell 1 rfl 0
      have q1 : w9.cell? ⟨w.heap.size + 1, 1, none⟩ = some (.slice none 0 0) := E4.out.cell 1 rfl 1
      have q2 : w9.cell? ⟨w.heap.size + 1, 2, none⟩ = some (.int .i64 (b.length : Int)) := E4.out.cell 1 rfl 2
      have q3 : w9.cell? ⟨w.heap.size + 1, 3, none⟩ = some (.bool false) := E4.out.cell 1 rfl 3
      have q4 : w9.cell? ⟨w.heap.size + 1, 4, none⟩ = some (.int .i64 0) := E4.out.cell 1 rfl 4
      exact bodyPost_ret (v := .agg #[.slice oa on oc, .slice none 0 0, .int .i64 (b.length : Int), .bool false, .int .i64 0]) (by simp [results, Tryd.results25, go_sem, q0, q1, q2, q3, q4]) rfl ⟨_, [], _, _, _, rfl, HF.out, FRow.nil _ _, E4.out.b⟩
    | some q =>
      obtain ⟨kk, sl⟩ := q
      have hpos := lineR_pos _ _ _ hR
      rw [List.length_drop] at hpos
      cases sl with
      | none =>
        have hx := HX.out
        rw [lnX_bad hR] at hx
        simp only [Prod.mk.injEq] at hx
        obtain ⟨m, hm⟩ : ∃ m, k + kk = m := ⟨_, rfl⟩
        rw [hm] at hx
        obtain ⟨rfl, rfl, rfl, rfl⟩ := hx
        have HF := hide (HAk.out.bad (fun e => fn_ne.2.2 e.symm) rfl rfl hR)
        rw [hm] at HF
        clear hR HX hm hpos
        have s0 : x2.cell? ⟨w.heap.size, 0, none⟩ = some (.slice oa on oc) := T3.out.cell 0 rfl 0
        have s1 : x2.cell? ⟨w.heap.size, 1, none⟩ = some (.slice none 0 0) := T3.out.cell 0 rfl 1
        have s2 : x2.cell? ⟨w.heap.size, 2, none⟩ = some (.int .i64 (m : Int)) := T3.out.cell 0 rfl 2
        have s3 : x2.cell? ⟨w.heap.size, 3, none⟩ = some (.bool false) := T3.out.cell 0 rfl 3
        have s4 : x2.cell? ⟨w.heap.size, 4, none⟩ = some (.int .i64 100) := T3.out.cell 0 rfl 4
        have r0 : x2.cell? ⟨w.heap.size + 1, 0, none⟩ = some (.slice none 0 0) := T3.out.cell 1 rfl 0
        have r1 : x2.cell? ⟨w.heap.size + 1, 1, none⟩ = some (.slice none 0 0) := T3.out.cell 1 rfl 1
        have r2 : x2.cell? ⟨w.heap.size + 1, 2, none⟩ = some (.int .i64 0) := T3.out.cell 1 rfl 2
        have r3 : x2.cell? ⟨w.heap.size + 1, 3, none⟩ = some (.bool false) := T3.out.cell 1 rfl 3
        have r4 : x2.cell? ⟨w.heap.size + 1, 4, none⟩ = some (.int .i64 0) := T3.out.cell 1 rfl 4
        have f0 : x2.frozen? ⟨w.heap.size + 1, 0, none⟩ = false := T3.out.fr 1 rfl 0
        have f1 : x2.frozen? ⟨w.heap.size + 1, 1, none⟩ = false := T3.out.fr 1 rfl 1
        have f2 : x2.frozen? ⟨w.heap.size + 1, 2, none⟩ = false := T3.out.fr 1 rfl 2
        have f3 : x2.frozen? ⟨w.heap.size + 1, 3, none⟩ = false := T3.out.fr 1 rfl 3
        have f4 : x2.frozen? ⟨w.heap.size + 1, 4, none⟩ = false := T3.out.fr 1 rfl 4
        go_wp2_with fail
        have E0 : Hid (Bl w (x2.setCell ⟨w.heap.size + 1, 0, none⟩ (.slice oa on oc)) [(#[.slice oa on oc, .slice none 0 0, .int .i64 (m : Int), .bool false, .int .i64 100], 34), (#[.slice oa on oc, .slice none 0 0, .int .i64 0, .bool false, .int .i64 0], 34)]) := hide (T3.out.set 1 rfl 0 (.slice oa on oc))
        have E1 : Hid (Bl w ((x2.setCell ⟨w.heap.size + 1, 0, none⟩ (.slice oa on oc)).setCell ⟨w.heap.size + 1, 1, none⟩ (.slice none 0 0)) [(#[.slice oa on oc, .slice none 0 0, .int .i64 (m : Int), .bool false, .int .i64 100], 34), (#[.slice oa on oc, .slice none 0 0, .int .i64 0, .bool false, .int .i64 0], 34)]) := hide (E0.out.set 1 rfl 1 (.slice none 0 0))
        have E2 : Hid (Bl w (((x2.setCell ⟨w.heap.size + 1, 0, none⟩ (.slice oa on oc)).setCell ⟨w.heap.size + 1, 1, none⟩ (.slice none 0 0)).setCell ⟨w.heap.size + 1, 2, none⟩ (.int .i64 (m : Int))) [(#[.slice oa on oc, .slice none 0 0, .int .i64 (m : Int), .bool false, .int .i64 100], 34), (#[.slice oa on oc, .slice none 0 0, .int .i64 (m : Int), .bool false, .int .i64 0], 34)]) := hide (E1.out.set 1 rfl 2 (.int .i64 (m : Int)))
        have E3 : Hid (Bl w ((((x2.setCell ⟨w.heap.size + 1, 0, none⟩ (.slice oa on oc)).setCell ⟨w.heap.size + 1, 1, none⟩ (.slice none 0 0)).setCell ⟨w.heap.size + 1, 2, none⟩ (.int .i64 (m : Int))).setCell ⟨w.heap.size + 1, 3, none⟩ (.bool false)) [(#[.slice oa on oc, .slice none 0 0, .int .i64 (m : Int), .bool false, .int .i64 100], 34), (#[.slice oa on oc, .slice none 0 0, .int .i64 (m : Int), .bool false, .int .i64 0], 34)]) := hide (E2.out.set 1 rfl 3 (.bool false))
        have E4 : Hid (Bl w (((((x2.setCell ⟨w.heap.size + 1, 0, none⟩ (.slice oa on oc)).setCell ⟨w.heap.size + 1, 1, none⟩ (.slice none 0 0)).setCell ⟨w.heap.size + 1, 2, none⟩ (.int .i64 (m : Int))).setCell ⟨w.heap.size + 1, 3, none⟩ (.bool false)).setCell ⟨w.heap.size + 1, 4, none⟩ (.int .i64 100)) [(#[.slice oa on oc, .slice none 0 0, .int .i64 (m : Int), .bool false, .int .i64 100], 34), (#[.slice oa on oc, .slice none 0 0, .int .i64 (m : Int), .bool false, .int .i64 100], 34)]) := hide (E3.out.set 1 rfl 4 (.int .i64 100))
        have EB : Hid (Below x2.heap.size x2 x2) := hide (Below.refl _ _)
        clear s0 r0 f0 s1 r1 f1 s2 r2 f2 s3 r3 f3 s4 r4 f4 EB E0 E1 E2 E3
        generalize (((((x2.setCell ⟨w.heap.size + 1, 0, none⟩ (.slice oa on oc)).setCell ⟨w.heap.size + 1, 1, none⟩ (.slice none 0 0)).setCell ⟨w.heap.size + 1, 2, none⟩ (.int .i64 (m : Int))).setCell ⟨w.heap.size + 1, 3, none⟩ (.bool false)).setCell ⟨w.heap.size + 1, 4, none⟩ (.int .i64 100)) = w9 at E4 ⊢
        have q0 : w9.cell? ⟨w.heap.size + 1, 0, none⟩ = some (.slice oa on oc) := E4.out.cell 1 rfl 0
        have q1 : w9.cell? ⟨w.heap.size + 1, 1, none⟩ = some (.slice none 0 0) := E4.out.cell 1 rfl 1
        have q2 : w9.cell? ⟨w.heap.size + 1, 2, none⟩ = some (.int .i64 (m : Int)) := E4.out.cell 1 rfl 2
        have q3 : w9.cell? ⟨w.heap.size + 1, 3, none⟩ = some (.bool false) := E4.out.cell 1 rfl 3
        have q4 : w9.cell? ⟨w.heap.size + 1, 4, none⟩ = some (.int .i64 100) := E4.out.cell 1 rfl 4
        exact bodyPost_ret (v := .agg #[.slice oa on oc, .slice none 0 0, .int .i64 (m : Int), .bool false, .int .i64 100]) (by simp [results, Tryd.results25, go_sem, q0, q1, q2, q3, q4]) rfl ⟨_, [], _, _, _, rfl, HF.out, FRow.nil _ _, E4.out.b⟩
      | some sl =>
        have hx := HX.out
        rw [lnX_line hR] at hx
        simp only [Prod.mk.injEq] at hx
        obtain ⟨m, hm⟩ : ∃ m, k + kk = m := ⟨_, rfl⟩
        rw [hm] at hx
        obtain ⟨rfl, rfl, rfl, rfl⟩ := hx
        have HF := hide (HAk.out.trl hR)
        rw [hm] at HF
        have hkm : k < m := by omega
        have hmb : m ≤ b.length := by omega
        clear hm hpos
        have hsz := lineR_size _ _ _ (Nat.zero_le _) hR
        have HSS : Hid ((sS sl).size ≤ 8192) := hide (by rw [sS_size]; exact hsz)
        clear hR HX hsz
        generalize sS sl = s at HF HSS ⊢
        by_cases h0 : s.size = 0
        · have t0 := emp_t h0
          have HFN := hide (HF.out.1 h0)
          clear h0 HF
          have s1 : x2.cell? ⟨w.heap.size, 1, none⟩ = some (.slice none 0 0) := T3.out.cell 0 rfl 1
          have f1 : x2.frozen? ⟨w.heap.size, 1, none⟩ = false := T3.out.fr 0 rfl 1
          go_upto_region 9 with fail
          clear s1 f1
          have T4 : Hid (Bl w (x2.setCell ⟨w.heap.size, 1, none⟩ (.slice la l.length lc)) [(#[.slice oa on oc, .slice la l.length lc, .int .i64 (m : Int), .bool false, .int .i64 0], 34), (#[.slice none 0 0, .slice none 0 0, .int .i64 0, .bool false, .int .i64 0], 34)]) := hide (T3.out.set 0 rfl 1 (.slice la l.length lc))
          have RWT4 := hide (RWT3.out.setOld (g := w.heap.size) (by omega) 1 (.slice la l.length lc))
          have ZT4 : Hid (w.heap.size + 2 ≤ (x2.setCell ⟨w.heap.size, 1, none⟩ (.slice la l.length lc)).heap.size) := hide (by simpa using ZT3.out)
          generalize x2.setCell ⟨w.heap.size, 1, none⟩ (.slice la l.length lc) = x3 at T4 RWT4 ZT4 ⊢
          clear T3 RWT3 ZT3
          have s3 : x3.cell? ⟨w.heap.size, 3, none⟩ = some (.bool false) := T4.out.cell 0 rfl 3
          have f3 : x3.frozen? ⟨w.heap.size, 3, none⟩ = false := T4.out.fr 0 rfl 3
          go_upto_region 10 with fail
          clear s3 f3
          have T5 : Hid (Bl w (x3.setCell ⟨w.heap.size, 3, none⟩ (.bool true)) [(#[.slice oa on oc, .slice la l.length lc, .int .i64 (m : Int), .bool true, .int .i64 0], 34), (#[.slice none 0 0, .slice none 0 0, .int .i64 0, .bool false, .int .i64 0], 34)]) := hide (T4.out.set 0 rfl 3 (.bool true))
          have RWT5 := hide (RWT4.out.setOld (g := w.heap.size) (by omega) 3 (.bool true))
          have ZT5 : Hid (w.heap.size + 2 ≤ (x3.setCell ⟨w.heap.size, 3, none⟩ (.bool true)).heap.size) := hide (by simpa using ZT4.out)
          generalize x3.setCell ⟨w.heap.size, 3, none⟩ (.bool true) = x4 at T5 RWT5 ZT5 ⊢
          clear T4 RWT4 ZT4
          have s0 : x4.cell? ⟨w.heap.size, 0, none⟩ = some (.slice oa on oc) := T5.out.cell 0 rfl 0
          have s1 : x4.cell? ⟨w.heap.size, 1, none⟩ = some (.slice la l.length lc) := T5.out.cell 0 rfl 1
          have s2 : x4.cell? ⟨w.heap.size, 2, none⟩ = some (.int .i64 (m : Int)) := T5.out.cell 0 rfl 2
          have s3 : x4.cell? ⟨w.heap.size, 3, none⟩ = some (.bool true) := T5.out.cell 0 rfl 3
          have s4 : x4.cell? ⟨w.heap.size, 4, none⟩ = some (.int .i64 0) := T5.out.cell 0 rfl 4
          have r0 : x4.cell? ⟨w.heap.size + 1, 0, none⟩ = some (.slice none 0 0) := T5.out.cell 1 rfl 0
          have r1 : x4.cell? ⟨w.heap.size + 1, 1, none⟩ = some (.slice none 0 0) := T5.out.cell 1 rfl 1
          have r2 : x4.cell? ⟨w.heap.size + 1, 2, none⟩ = some (.int .i64 0) := T5.out.cell 1 rfl 2
          have r3 : x4.cell? ⟨w.heap.size + 1, 3, none⟩ = some (.bool false) := T5.out.cell 1 rfl 3
          have r4 : x4.cell? ⟨w.heap.size + 1, 4, none⟩ = some (.int .i64 0) := T5.out.cell 1 rfl 4
          have f0 : x4.frozen? ⟨w.heap.size + 1, 0, none⟩ = false := T5.out.fr 1 rfl 0
          have f1 : x4.frozen? ⟨w.heap.size + 1, 1, none⟩ = false := T5.out.fr 1 rfl 1
          have f2 : x4.frozen? ⟨w.heap.size + 1, 2, none⟩ = false := T5.out.fr 1 rfl 2
          have f3 : x4.frozen? ⟨w.heap.size + 1, 3, none⟩ = false := T5.out.fr 1 rfl 3
          have f4 : x4.frozen? ⟨w.heap.size + 1, 4, none⟩ = false := T5.out.fr 1 rfl 4
          go_wp2_with fail
          have E0 : Hid (Bl w (x4.setCell ⟨w.heap.size + 1, 0, none⟩ (.slice oa on oc)) [(#[.slice oa on oc, .slice la l.length lc, .int .i64 (m : Int), .bool true, .int .i64 0], 34), (#[.slice oa on oc, .slice none 0 0, .int .i64 0, .bool false, .int .i64 0], 34)]) := hide (T5.out.set 1 rfl 0 (.slice oa on oc))
          have E1 : Hid (Bl w ((x4.setCell ⟨w.heap.size + 1, 0, none⟩ (.slice oa on oc)).setCell ⟨w.heap.size + 1, 1, none⟩ (.slice la l.length lc)) [(#[.slice oa on oc, .slice la l.length lc, .int .i64 (m : Int), .bool true, .int .i64 0], 34), (#[.slice oa on oc, .slice la l.length lc, .int .i64 0, .bool false, .int .i64 0], 34)]) := hide (E0.out.set 1 rfl 1 (.slice la l.length lc))
          have E2 : Hid (Bl w (((x4.setCell ⟨w.heap.size + 1, 0, none⟩ (.slice oa on oc)).setCell ⟨w.heap.size + 1, 1, none⟩ (.slice la l.length lc)).setCell ⟨w.heap.size + 1, 2, none⟩ (.int .i64 (m : Int))) [(#[.slice oa on oc, .slice la l.length lc, .int .i64 (m : Int), .bool true, .int .i64 0], 34), (#[.slice oa on oc, .slice la l.length lc, .int .i64 (m : Int), .bool false, .int .i64 0], 34)]) := hide (E1.out.set 1 rfl 2 (.int .i64 (m : Int)))
          have E3 : Hid (Bl w ((((x4.setCell ⟨w.heap.size + 1, 0, none⟩ (.slice oa on oc)).setCell ⟨w.heap.size + 1, 1, none⟩ (.slice la l.length lc)).setCell ⟨w.heap.size + 1, 2, none⟩ (.int .i64 (m : Int))).setCell ⟨w.heap.size + 1, 3, none⟩ (.bool true)) [(#[.slice oa on oc, .slice la l.length lc, .int .i64 (m : Int), .bool true, .int .i64 0], 34), (#[.slice oa on oc, .slice la l.length lc, .int .i64 (m : Int), .bool true, .int .i64 0], 34)]) := hide (E2.out.set 1 rfl 3 (.bool true))
          have E4 : Hid (Bl w (((((x4.setCell ⟨w.heap.size + 1, 0, none⟩ (.slice oa on oc)).setCell ⟨w.heap.size + 1, 1, none⟩ (.slice la l.length lc)).setCell ⟨w.heap.size + 1, 2, none⟩ (.int .i64 (m : Int))).setCell ⟨w.heap.size + 1, 3, none⟩ (.bool true)).setCell ⟨w.heap.size + 1, 4, none⟩ (.int .i64 0)) [(#[.slice oa on oc, .slice la l.length lc, .int .i64 (m : Int), .bool true, .int .i64 0], 34), (#[.slice oa on oc, .slice la l.length lc, .int .i64 (m : Int), .bool true, .int .i64 0], 34)]) := hide (E3.out.set 1 rfl 4 (.int .i64 0))
          have EB : Hid (Below x4.heap.size x4 x4) := hide (Below.refl _ _)
          have RX := hide (((((RWT5.out.setOld (g := w.heap.size + 1) (by omega) 0 (.slice oa on oc)).setOld (g := w.heap.size + 1) (by omega) 1 (.slice la l.length lc)).setOld (g := w.heap.size + 1) (by omega) 2 (.int .i64 (m : Int))).setOld (g := w.heap.size + 1) (by omega) 3 (.bool true)).setOld (g := w.heap.size + 1) (by omega) 4 (.int .i64 0))
          clear s0 r0 f0 s1 r1 f1 s2 r2 f2 s3 r3 f3 s4 r4 f4 EB E0 E1 E2 E3
          generalize (((((x4.setCell ⟨w.heap.size + 1, 0, none⟩ (.slice oa on oc)).setCell ⟨w.heap.size + 1, 1, none⟩ (.slice la l.length lc)).setCell ⟨w.heap.size + 1, 2, none⟩ (.int .i64 (m : Int))).setCell ⟨w.heap.size + 1, 3, none⟩ (.bool true)).setCell ⟨w.heap.size + 1, 4, none⟩ (.int .i64 0)) = w9 at E4 RX ⊢
          have q0 : w9.cell? ⟨w.heap.size + 1, 0, none⟩ = some (.slice oa on oc) := E4.out.cell 1 rfl 0
          have q1 : w9.cell? ⟨w.heap.size + 1, 1, none⟩ = some (.slice la l.length lc) := E4.out.cell 1 rfl 1
          have q2 : w9.cell? ⟨w.heap.size + 1, 2, none⟩ = some (.int .i64 (m : Int)) := E4.out.cell 1 rfl 2
          have q3 : w9.cell? ⟨w.heap.size + 1, 3, none⟩ = some (.bool true) := E4.out.cell 1 rfl 3
          have q4 : w9.cell? ⟨w.heap.size + 1, 4, none⟩ = some (.int .i64 0) := E4.out.cell 1 rfl 4
          exact bodyPost_ret (v := .agg #[.slice oa on oc, .slice la l.length lc, .int .i64 (m : Int), .bool true, .int .i64 0]) (by simp [results, Tryd.results25, go_sem, q0, q1, q2, q3, q4]) rfl ⟨_, l, _, _, _, rfl, HFN.out, RX.out.lower (by omega), E4.out.b⟩
        · have t0 := emp_f h0
          have HTR := hide (rtrailer_any s x2 HSS.out)
          have HF2 := hide (HF.out.2.1 h0)
          have HF3 := hide (HF.out.2.2 h0)
          clear h0 HF
          generalize hok : trOk s = ok at HTR
          have HOK := hide hok
          clear hok
          go_wp2_with fail
          refine HTR.out.mono ?_
          rintro e w3 ⟨r1, r2, rfl, hff, b3⟩
          have HFF := hide hff
          have T4 := hide (T3.out.below b3)
          have RWT4 := hide (RWT3.out.below b3)
          have ZT4 := hide (Nat.le_trans ZT3.out b3.size)
          clear hff b3 T3 RWT3 ZT3 HTR
          go_upto_region 12 with fail
          have BA := hide ((Below.refl w3.heap.size w3).alloc (Nat.le_refl _) (.cells #[.string r1, .string r2] 85))
          have HD := hide (hp_new w3 (.cells #[.string r1, .string r2] 85))
          have T5 := hide (T4.out.below BA.out)
          have RWT5 := hide (RWT4.out.below BA.out)
          have ZT5 := hide (Nat.le_trans ZT4.out BA.out.size)
          have ZB5 := ZT4
          clear T4 RWT4 ZT4 BA
          generalize w3.alloc (.cells #[.string r1, .string r2] 85) = x3 at HD T5 RWT5 ZT5 ⊢
          generalize w3.heap.size = bf at HD ZB5 ⊢
          cases ok with
          | false =>
            have HFB := hide (HF2.out (by
              have := HOK.out
              unfold trOk at this
              rw [Bool.and_eq_false_iff] at this
              rcases this with h | h
              · exact .inl h
              · exact .inr (.inl (of_decide_eq_false h))))
            clear HF2 HF3 HOK HFF HD
            have s4 : x3.cell? ⟨w.heap.size, 4, none⟩ = some (.int .i64 0) := T5.out.cell 0 rfl 4
            have f4 : x3.frozen? ⟨w.heap.size, 4, none⟩ = false := T5.out.fr 0 rfl 4
            go_upto_region 14 with fail
            clear s4 f4
            have T6 : Hid (Bl w (x3.setCell ⟨w.heap.size, 4, none⟩ (.int .i64 100)) [(#[.slice oa on oc, .slice none 0 0, .int .i64 (m : Int), .bool false, .int .i64 100], 34), (#[.slice none 0 0, .slice none 0 0, .int .i64 0, .bool false, .int .i64 0], 34)]) := hide (T5.out.set 0 rfl 4 (.int .i64 100))
            have RWT6 := hide (RWT5.out.setOld (g := w.heap.size) (by omega) 4 (.int .i64 100))
            have ZT6 : Hid (w.heap.size + 2 ≤ (x3.setCell ⟨w.heap.size, 4, none⟩ (.int .i64 100)).heap.size) := hide (by simpa using ZT5.out)
            generalize x3.setCell ⟨w.heap.size, 4, none⟩ (.int .i64 100) = x4 at T6 RWT6 ZT6 ⊢
            clear T5 RWT5 ZT5
            have s0 : x4.cell? ⟨w.heap.size, 0, none⟩ = some (.slice oa on oc) := T6.out.cell 0 rfl 0
            have s1 : x4.cell? ⟨w.heap.size, 1, none⟩ = some (.slice none 0 0) := T6.out.cell 0 rfl 1
            have s2 : x4.cell? ⟨w.heap.size, 2, none⟩ = some (.int .i64 (m : Int)) := T6.out.cell 0 rfl 2
            have s3 : x4.cell? ⟨w.heap.size, 3, none⟩ = some (.bool false) := T6.out.cell 0 rfl 3
            have s4 : x4.cell? ⟨w.heap.size, 4, none⟩ = some (.int .i64 100) := T6.out.cell 0 rfl 4
            have r0 : x4.cell? ⟨w.heap.size + 1, 0, none⟩ = some (.slice none 0 0) := T6.out.cell 1 rfl 0
            have r1 : x4.cell? ⟨w.heap.size + 1, 1, none⟩ = some (.slice none 0 0) := T6.out.cell 1 rfl 1
            have r2 : x4.cell? ⟨w.heap.size + 1, 2, none⟩ = some (.int .i64 0) := T6.out.cell 1 rfl 2
            have r3 : x4.cell? ⟨w.heap.size + 1, 3, none⟩ = some (.bool false) := T6.out.cell 1 rfl 3
            have r4 : x4.cell? ⟨w.heap.size + 1, 4, none⟩ = some (.int .i64 0) := T6.out.cell 1 rfl 4
            have f0 : x4.frozen? ⟨w.heap.size + 1, 0, none⟩ = false := T6.out.fr 1 rfl 0
            have f1 : x4.frozen? ⟨w.heap.size + 1, 1, none⟩ = false := T6.out.fr 1 rfl 1
            have f2 : x4.frozen? ⟨w.heap.size + 1, 2, none⟩ = false := T6.out.fr 1 rfl 2
            have f3 : x4.frozen? ⟨w.heap.size + 1, 3, none⟩ = false := T6.out.fr 1 rfl 3
            have f4 : x4.frozen? ⟨w.heap.size + 1, 4, none⟩ = false := T6.out.fr 1 rfl 4
            go_wp2_with fail
            have E0 : Hid (Bl w (x4.setCell ⟨w.heap.size + 1, 0, none⟩ (.slice oa on oc)) [(#[.slice oa on oc, .slice none 0 0, .int .i64 (m : Int), .bool false, .int .i64 100], 34), (#[.slice oa on oc, .slice none 0 0, .int .i64 0, .bool false, .int .i64 0], 34)]) := hide (T6.out.set 1 rfl 0 (.slice oa on oc))
            have E1 : Hid (Bl w ((x4.setCell ⟨w.heap.size + 1, 0, none⟩ (.slice oa on oc)).setCell ⟨w.heap.size + 1, 1, none⟩ (.slice none 0 0)) [(#[.slice oa on oc, .slice none 0 0, .int .i64 (m : Int), .bool false, .int .i64 100], 34), (#[.slice oa on oc, .slice none 0 0, .int .i64 0, .bool false, .int .i64 0], 34)]) := hide (E0.out.set 1 rfl 1 (.slice none 0 0))
            have E2 : Hid (Bl w (((x4.setCell ⟨w.heap.size + 1, 0, none⟩ (.slice oa on oc)).setCell ⟨w.heap.size + 1, 1, none⟩ (.slice none 0 0)).setCell ⟨w.heap.size + 1, 2, none⟩ (.int .i64 (m : Int))) [(#[.slice oa on oc, .slice none 0 0, .int .i64 (m : Int), .bool false, .int .i64 100], 34), (#[.slice oa on oc, .slice none 0 0, .int .i64 (m : Int), .bool false, .int .i64 0], 34)]) := hide (E1.out.set 1 rfl 2 (.int .i64 (m : Int)))
            have E3 : Hid (Bl w ((((x4.setCell ⟨w.heap.size + 1, 0, none⟩ (.slice oa on oc)).setCell ⟨w.heap.size + 1, 1, none⟩ (.slice none 0 0)).setCell ⟨w.heap.size + 1, 2, none⟩ (.int .i64 (m : Int))).setCell ⟨w.heap.size + 1, 3, none⟩ (.bool false)) [(#[.slice oa on oc, .slice none 0 0, .int .i64 (m : Int), .bool false, .int .i64 100], 34), (#[.slice oa on oc, .slice none 0 0, .int .i64 (m : Int), .bool false, .int .i64 0], 34)]) := hide (E2.out.set 1 rfl 3 (.bool false))
            have E4 : Hid (Bl w (((((x4.setCell ⟨w.heap.size + 1, 0, none⟩ (.slice oa on oc)).setCell ⟨w.heap.size + 1, 1, none⟩ (.slice none 0 0)).setCell ⟨w.heap.size + 1, 2, none⟩ (.int .i64 (m : Int))).setCell ⟨w.heap.size + 1, 3, none⟩ (.bool false)).setCell ⟨w.heap.size + 1, 4, none⟩ (.int .i64 100)) [(#[.slice oa on oc, .slice none 0 0, .int .i64 (m : Int), .bool false, .int .i64 100], 34), (#[.slice oa on oc, .slice none 0 0, .int .i64 (m : Int), .bool false, .int .i64 100], 34)]) := hide (E3.out.set 1 rfl 4 (.int .i64 100))
            have EB : Hid (Below x4.heap.size x4 x4) := hide (Below.refl _ _)
            clear s0 r0 f0 s1 r1 f1 s2 r2 f2 s3 r3 f3 s4 r4 f4 EB E0 E1 E2 E3
            generalize (((((x4.setCell ⟨w.heap.size + 1, 0, none⟩ (.slice oa on oc)).setCell ⟨w.heap.size + 1, 1, none⟩ (.slice none 0 0)).setCell ⟨w.heap.size + 1, 2, none⟩ (.int .i64 (m : Int))).setCell ⟨w.heap.size + 1, 3, none⟩ (.bool false)).setCell ⟨w.heap.size + 1, 4, none⟩ (.int .i64 100)) = w9 at E4 ⊢
            have q0 : w9.cell? ⟨w.heap.size + 1, 0, none⟩ = some (.slice oa on oc) := E4.out.cell 1 rfl 0
            have q1 : w9.cell? ⟨w.heap.size + 1, 1, none⟩ = some (.slice none 0 0) := E4.out.cell 1 rfl 1
            have q2 : w9.cell? ⟨w.heap.size + 1, 2, none⟩ = some (.int .i64 (m : Int)) := E4.out.cell 1 rfl 2
            have q3 : w9.cell? ⟨w.heap.size + 1, 3, none⟩ = some (.bool false) := E4.out.cell 1 rfl 3
            have q4 : w9.cell? ⟨w.heap.size + 1, 4, none⟩ = some (.int .i64 100) := E4.out.cell 1 rfl 4
            exact bodyPost_ret (v := .agg #[.slice oa on oc, .slice none 0 0, .int .i64 (m : Int), .bool false, .int .i64 100]) (by simp [results, Tryd.results25, go_sem, q0, q1, q2, q3, q4]) rfl ⟨_, [], _, _, _, rfl, HFB.out, FRow.nil _ _, E4.out.b⟩
          | true =>
            have hk3 : k3 58 s = true ∧ chkF (fldF s) = 0 := by
              have := HOK.out
              unfold trOk at this
              rw [Bool.and_eq_true, decide_eq_true_eq] at this
              exact this
            have HFE := hide (HFF.out hk3.1)
            by_cases h100 : l.length = 100
            · have t1 : (100 : Int) ≤ (l.length : Int) := by omega
              have HFB := hide (HF2.out (.inr (.inr h100)))
              clear HF2 HF3 HOK HFF HD hk3 HFE h100
              have s4 : x3.cell? ⟨w.heap.size, 4, none⟩ = some (.int .i64 0) := T5.out.cell 0 rfl 4
              have f4 : x3.frozen? ⟨w.heap.size, 4, none⟩ = false := T5.out.fr 0 rfl 4
              go_upto_region 14 with fail
              clear s4 f4
              have T6 : Hid (Bl w (x3.setCell ⟨w.heap.size, 4, none⟩ (.int .i64 100)) [(#[.slice oa on oc, .slice none 0 0, .int .i64 (m : Int), .bool false, .int .i64 100], 34), (#[.slice none 0 0, .slice none 0 0, .int .i64 0, .bool false, .int .i64 0], 34)]) := hide (T5.out.set 0 rfl 4 (.int .i64 100))
              have RWT6 := hide (RWT5.out.setOld (g := w.heap.size) (by omega) 4 (.int .i64 100))
              have ZT6 : Hid (w.heap.size + 2 ≤ (x3.setCell ⟨w.heap.size, 4, none⟩ (.int .i64 100)).heap.size) := hide (by simpa using ZT5.out)
              generalize x3.setCell ⟨w.heap.size, 4, none⟩ (.int .i64 100) = x4 at T6 RWT6 ZT6 ⊢
              clear T5 RWT5 ZT5
              have s0 : x4.cell? ⟨w.heap.size, 0, none⟩ = some (.slice oa on oc) := T6.out.cell 0 rfl 0
              have s1 : x4.cell? ⟨w.heap.size, 1, none⟩ = some (.slice none 0 0) := T6.out.cell 0 rfl 1
              have s2 : x4.cell? ⟨w.heap.size, 2, none⟩ = some (.int .i64 (m : Int)) := T6.out.cell 0 rfl 2
              have s3 : x4.cell? ⟨w.heap.size, 3, none⟩ = some (.bool false) := T6.out.cell 0 rfl 3
              have s4 : x4.cell? ⟨w.heap.size, 4, none⟩ = some (.int .i64 100) := T6.out.cell 0 rfl 4
              have r0 : x4.cell? ⟨w.heap.size + 1, 0, none⟩ = some (.slice none 0 0) := T6.out.cell 1 rfl 0
              have r1 : x4.cell? ⟨w.heap.size + 1, 1, none⟩ = some (.slice none 0 0) := T6.out.cell 1 rfl 1
              have r2 : x4.cell? ⟨w.heap.size + 1, 2, none⟩ = some (.int .i64 0) := T6.out.cell 1 rfl 2
              have r3 : x4.cell? ⟨w.heap.size + 1, 3, none⟩ = some (.bool false) := T6.out.cell 1 rfl 3
              have r4 : x4.cell? ⟨w.heap.size + 1, 4, none⟩ = some (.int .i64 0) := T6.out.cell 1 rfl 4
              have f0 : x4.frozen? ⟨w.heap.size + 1, 0, none⟩ = false := T6.out.fr 1 rfl 0
              have f1 : x4.frozen? ⟨w.heap.size + 1, 1, none⟩ = false := T6.out.fr 1 rfl 1
              have f2 : x4.frozen? ⟨w.heap.size + 1, 2, none⟩ = false := T6.out.fr 1 rfl 2
              have f3 : x4.frozen? ⟨w.heap.size + 1, 3, none⟩ = false := T6.out.fr 1 rfl 3
              have f4 : x4.frozen? ⟨w.heap.size + 1, 4, none⟩ = false := T6.out.fr 1 rfl 4
              go_wp2_with fail
              have E0 : Hid (Bl w (x4.setCell ⟨w.heap.size + 1, 0, none⟩ (.slice oa on oc)) [(#[.slice oa on oc, .slice none 0 0, .int .i64 (m : Int), .bool false, .int .i64 100], 34), (#[.slice oa on oc, .slice none 0 0, .int .i64 0, .bool false, .int .i64 0], 34)]) := hide (T6.out.set 1 rfl 0 (.slice oa on oc))
              have E1 : Hid (Bl w ((x4.setCell ⟨w.heap.size + 1, 0, none⟩ (.slice oa on oc)).setCell ⟨w.heap.size + 1, 1, none⟩ (.slice none 0 0)) [(#[.slice oa on oc, .slice none 0 0, .int .i64 (m : Int), .bool false, .int .i64 100], 34), (#[.slice oa on oc, .slice none 0 0, .int .i64 0, .bool false, .int .i64 0], 34)]) := hide (E0.out.set 1 rfl 1 (.slice none 0 0))
              have E2 : Hid (Bl w (((x4.setCell ⟨w.heap.size + 1, 0, none⟩ (.slice oa on oc)).setCell ⟨w.heap.size + 1, 1, none⟩ (.slice none 0 0)).setCell ⟨w.heap.size + 1, 2, none⟩ (.int .i64 (m : Int))) [(#[.slice oa on oc, .slice none 0 0, .int .i64 (m : Int), .bool false, .int .i64 100], 34), (#[.slice oa on oc, .slice none 0 0, .int .i64 (m : Int), .bool false, .int .i64 0], 34)]) := hide (E1.out.set 1 rfl 2 (.int .i64 (m : Int)))
              have E3 : Hid (Bl w ((((x4.setCell ⟨w.heap.size + 1, 0, none⟩ (.slice oa on oc)).setCell ⟨w.heap.size + 1, 1, none⟩ (.slice none 0 0)).setCell ⟨w.heap.size + 1, 2, none⟩ (.int .i64 (m : Int))).setCell ⟨w.heap.size + 1, 3, none⟩ (.bool false)) [(#[.slice oa on oc, .slice none 0 0, .int .i64 (m : Int), .bool false, .int .i64 100], 34), (#[.slice oa on oc, .slice none 0 0, .int .i64 (m : Int), .bool false, .int .i64 0], 34)]) := hide (E2.out.set 1 rfl 3 (.bool false))
              have E4 : Hid (Bl w (((((x4.setCell ⟨w.heap.size + 1, 0, none⟩ (.slice oa on oc)).setCell ⟨w.heap.size + 1, 1, none⟩ (.slice none 0 0)).setCell ⟨w.heap.size + 1, 2, none⟩ (.int .i64 (m : Int))).setCell ⟨w.heap.size + 1, 3, none⟩ (.bool false)).setCell ⟨w.heap.size + 1, 4, none⟩ (.int .i64 100)) [(#[.slice oa on oc, .slice none 0 0, .int .i64 (m : Int), .bool false, .int .i64 100], 34), (#[.slice oa on oc, .slice none 0 0, .int .i64 (m : Int), .bool false, .int .i64 100], 34)]) := hide (E3.out.set 1 rfl 4 (.int .i64 100))
              have EB : Hid (Below x4.heap.size x4 x4) := hide (Below.refl _ _)
              clear s0 r0 f0 s1 r1 f1 s2 r2 f2 s3 r3 f3 s4 r4 f4 EB E0 E1 E2 E3
              generalize (((((x4.setCell ⟨w.heap.size + 1, 0, none⟩ (.slice oa on oc)).setCell ⟨w.heap.size + 1, 1, none⟩ (.slice none 0 0)).setCell ⟨w.heap.size + 1, 2, none⟩ (.int .i64 (m : Int))).setCell ⟨w.heap.size + 1, 3, none⟩ (.bool false)).setCell ⟨w.heap.size + 1, 4, none⟩ (.int .i64 100)) = w9 at E4 ⊢
              have q0 : w9.cell? ⟨w.heap.size + 1, 0, none⟩ = some (.slice oa on oc) := E4.out.cell 1 rfl 0
              have q1 : w9.cell? ⟨w.heap.size + 1, 1, none⟩ = some (.slice none 0 0) := E4.out.cell 1 rfl 1
              have q2 : w9.cell? ⟨w.heap.size + 1, 2, none⟩ = some (.int .i64 (m : Int)) := E4.out.cell 1 rfl 2
              have q3 : w9.cell? ⟨w.heap.size + 1, 3, none⟩ = some (.bool false) := E4.out.cell 1 rfl 3
              have q4 : w9.cell? ⟨w.heap.size + 1, 4, none⟩ = some (.int .i64 100) := E4.out.cell 1 rfl 4
              exact bodyPost_ret (v := .agg #[.slice oa on oc, .slice none 0 0, .int .i64 (m : Int), .bool false, .int .i64 100]) (by simp [results, Tryd.results25, go_sem, q0, q1, q2, q3, q4]) rfl ⟨_, [], _, _, _, rfl, HFB.out, FRow.nil _ _, E4.out.b⟩
            · have t1 : ¬ (100 : Int) ≤ (l.length : Int) := by have := HLL.out; omega
              have HA2 := hide (HF3.out (by rw [hk3.1, hk3.2]; simp [h100]))
              have HL2 : Hid ((l ++ [fldF s]).length ≤ 100) := hide (by rw [List.length_append, List.length_singleton]; have := HLL.out; omega)
              have hln : l.length ≤ 1099511627776 := by have := HLL.out; omega
              rw [← HFE.out] at HA2 HL2
              clear HF2 HF3 HOK HFF hk3 HFE h100
              have d0 : x3.cell? ⟨bf, 0, none⟩ = some (.string r1) := cell_at HD.out 0
              have d1 : x3.cell? ⟨bf, 1, none⟩ = some (.string r2) := cell_at HD.out 1
              go_wp2_with (at_builtin; apply Hid.out)
              unfold Hid
              refine wpList_append_fld rfl _ _ rfl x3 (w.heap.size + 2) (.slice la l.length lc) l r1 r2 rfl rfl RWT5.out hln ZT5.out ?_
              intro v' W1 O' B'
              obtain ⟨na, nc, rfl, _, _⟩ := O'.shape
              have R2 := hide O'
              have T6 := hide (T5.out.low (by simp) B')
              have Z6 := hide (Nat.le_trans ZT5.out B'.size)
              have HN2 : Hid (nOf w.heap.size W1 = m) := hide (nOf_eq (T6.out.cell 0 rfl 2))
              clear O' B' d0 d1 HD
              go_wp2_with fail
              go_roundw
              case rel => exact ⟨m, l ++ [(r1, r2)], na, _, nc, rfl, hmb, HA2, HL2, Z6, hide (by have h := R2.out; rw [List.length_append, List.length_singleton] at h; exact h), T6⟩
              case measure => rw [HN2.out, HNO.out]; omega
end Go.Proofs.YtggeihahbgeneaaDoor
