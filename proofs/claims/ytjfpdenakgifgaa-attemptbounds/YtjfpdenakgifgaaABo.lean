/- AttemptBounds, walked. -/
import Derived.Test.YtjfpdenakgifgaaATp
namespace Go.Proofs.Ytjfpdenakgifgaa
open Go.ChangeShapes Go.WideShapes Go.ChangeAt Go.RowKit
set_option linter.unusedVariables false

def acO (a : Ac) : Obj := .cells #[.int .i64 a.k, .int .i64 a.c, .int .i64 a.w] 53 (0, 0)
/-- Sixteen marks. -/
def BA (g : Nat) (run : Int → Bool) : Thing := fun w P => (∃ c : Array Value, w.heap[g]? = some (.cells c 51 (0, 0)) ∧ c.size = 16 ∧ ∀ i : Nat, i < 16 → c[i]? = some (.bool (run (i : Int)))) ∧ ∀ k, P k ↔ k = g
instance BA.ob (g : Nat) (run : Int → Bool) : Ob (BA g run) := ⟨fun w w' P Q h F d => by
  obtain ⟨⟨c, h1, h2, h3⟩, h4⟩ := h
  exact ⟨⟨c, F.hd (d g ((h4 g).2 rfl)) h1, h2, h3⟩, h4⟩, fun w P k h hk => by
  obtain ⟨⟨c, h1, h2, h3⟩, h4⟩ := h
  have := (h4 k).1 hk; subst this; exact hp_lt h1⟩
theorem BA.get {g : Nat} {run : Int → Bool} {w : World} {P : Nat → Prop} (h : BA g run w P) {i : Nat} (hi : i < 16) : w.cell? ⟨g, i, none⟩ = some (.bool (run (i : Int))) ∧ w.frozen? ⟨g, i, none⟩ = false := by
  obtain ⟨⟨c, h1, h2, h3⟩, h4⟩ := h
  exact ⟨by rw [cell_of h1]; exact h3 i hi, frozen_of h1 i⟩
theorem BA.set {g : Nat} {run : Int → Bool} {w : World} {P : Nat → Prop} (h : BA g run w P) {i : Nat} (hi : i < 16) (v : Bool) : Does (BA g (fun j => if j = (i : Int) then v else run j)) P w (w.setCell ⟨g, i, none⟩ (.bool v)) := by
  obtain ⟨⟨c, h1, h2, h3⟩, h4⟩ := h
  refine ⟨P, ⟨⟨_, hp_set h1 i (.bool v), by simpa using h2, fun j hj => ?_⟩, h4⟩, (Fr.set _ _ _ _).mono (fun k _ e => (h4 k).2 e), fun _ hk => .inl hk⟩
  by_cases e : j = i
  · subst e
    rw [Array.getElem?_setIfInBounds_self_of_lt (by omega)]
    simp
  · rw [Array.getElem?_setIfInBounds_ne (by omega), h3 j hj]
    have : ¬ (j : Int) = (i : Int) := by omega
    simp [this]
theorem ball_at : ∀ (A : List Ac) {s : Bs} {j : Nat} {y : Ac}, ball s A → A[j]? = some y → bok (bfin s (A.take j)) y
  | [], _, _, _, _, h => by simp at h
  | a :: A, s, 0, y, hb, h => by
    simp at h; subst h; exact hb.1
  | a :: A, s, j + 1, y, hb, h => by
    rw [List.getElem?_cons_succ] at h
    exact ball_at A hb.2 h
theorem bfin_next {A : List Ac} {s : Bs} {j : Nat} {y : Ac} (h : A[j]? = some y) : bfin s (A.take (j + 1)) = bnx (bfin s (A.take j)) y := by
  rw [take_next h, bfin_app]; rfl
theorem bfin_made : ∀ (l : List Ac) (s : Bs), s.made ≤ (bfin s l).made ∧ (bfin s l).made ≤ s.made + l.length
  | [], s => ⟨Int.le_refl _, by simp [bfin]⟩
  | a :: l, s => by
    obtain ⟨x, y⟩ := bfin_made l (bnx s a)
    have h1 : s.made ≤ (bnx s a).made ∧ (bnx s a).made ≤ s.made + 1 := by unfold bnx; dsimp only; split <;> omega
    have e : bfin s (a :: l) = bfin (bnx s a) l := rfl
    rw [e, List.length_cons]
    omega
set_option maxHeartbeats 8000000 in
set_option maxRecDepth 100000 in
theorem bounds_walk (re hg ha pt tt : Int) (sf : Bool) (ad : Option Addr) (len cap : Nat) (W : World) (hlen : len ≤ 6000000000000) (hst : Hid (InS W ad len)) :
    Calls Try.prog 4 #[plV re hg ha pt tt sf, .slice ad len cap] W fun e w' => e = .returned (.bool true) ∧ Below W.heap.size W w' := by
  have T0 : Hid (Top (Two (Blk W.heap.size (plO re hg ha pt tt sf)) Nil) W (W.alloc (plO re hg ha pt tt sf))) := hide ((Top.nil W).put (Blk.new W _))
  rw [show plO re hg ha pt tt sf = .cells #[.int .i64 re, .int .i64 hg, .int .i64 ha, .int .i64 pt, .int .i64 tt, .bool sf] 23 (0, 0) from rfl] at T0
  by_cases hA : okPl re hg ha pt tt
  · have HN := hide (fun V => new_any V re hg ha pt tt sf 0 hA rfl)
    have R0 : Hid ((0 ≤ re ∧ re ≤ 5) ∧ (0 ≤ hg ∧ hg ≤ 3)) := hide ⟨hA.1, hA.2.1⟩
    have J0 : Hid (J (p1 re hg ha pt tt sf 0) ⟨1, fun j => if j = ((0 : Nat) : Int) then true else false, 0⟩) := hide ⟨QOk.new hA (by omega) (by omega), by simp [p1, bgP, pz, numP], fun r hr => by simp [p1, bgP, pz, numP] at hr; subst hr; rfl, .inr ⟨by simp [p1, bgP, pz], rfl⟩, by simp [p1, bgP, pz, ids], by simp [p1, bgP, pz], by have := R0.out.1.1; simp [p1, bgP, pz]; exact this⟩
    have M0 : Hid (((p1 re hg ha pt tt sf 0).m2 ≤ hg ∧ (p1 re hg ha pt tt sf 0).hg ≤ hg) ∧ (p1 re hg ha pt tt sf 0).re = re) := hide ⟨⟨by have := R0.out.2.1; simp [p1, bgP, pz]; exact this, Int.le_refl _⟩, rfl⟩
    clear hA
    have hz : ∀ w, (zeroValue 51).run Try.prog w = .ok (.agg #[.bool false, .bool false, .bool false, .bool false, .bool false, .bool false, .bool false, .bool false, .bool false, .bool false, .bool false, .bool false, .bool false, .bool false, .bool false, .bool false]) w := fun w => by kernel_rfl
    unfold plV at HN ⊢
    go_enter Try.func4, Try.ntmps4
    go_upto_region 1 with fail
    generalize W.alloc _ = w0 at *
    generalize hgA : W.heap.size = a at *
    obtain ⟨_, x, -⟩ := T0.out.at0
    obtain ⟨r0, r1, r2, r3, r4, r5⟩ := pl_cells (re := re) (hg := hg) (ha := ha) (pt := pt) (tt := tt) (sf := sf) x.1
    clear x
    go_wp2_with fail
    refine (HN.out _).mono ?_
    rintro e w1 ⟨b, v1, rfl, d⟩
    have T1 : Hid (Top (Two (QX (p1 re hg ha pt tt sf 0) b) (Two (Blk a (.cells #[.int .i64 re, .int .i64 hg, .int .i64 ha, .int .i64 pt, .int .i64 tt, .bool sf] 23 (0, 0))) Nil)) W w1) := hide (T0.out.put d.snd)
    obtain ⟨va, vc, rfl⟩ : ∃ a c, v1 = .slice a 1 c := d.fst_of.elim (fun _ z => RA.sh z)
    clear d HN T0 r0 r1 r2 r3 r4 r5
    go_upto_region 7 with fail
    have T2 : Hid (Top (Two (BA w1.heap.size (fun _ => false)) (Two (QX (p1 re hg ha pt tt sf 0) b) (Two (Blk a (.cells #[.int .i64 re, .int .i64 hg, .int .i64 ha, .int .i64 pt, .int .i64 tt, .bool sf] 23 (0, 0))) Nil))) W (w1.alloc (.cells #[.bool false, .bool false, .bool false, .bool false, .bool false, .bool false, .bool false, .bool false, .bool false, .bool false, .bool false, .bool false, .bool false, .bool false, .bool false, .bool false] 51))) := hide (T1.out.put ⟨fun k => k = w1.heap.size, ⟨⟨_, hp_new _ _, rfl, fun i hi => by
      have : i = 0 ∨ i = 1 ∨ i = 2 ∨ i = 3 ∨ i = 4 ∨ i = 5 ∨ i = 6 ∨ i = 7 ∨ i = 8 ∨ i = 9 ∨ i = 10 ∨ i = 11 ∨ i = 12 ∨ i = 13 ∨ i = 14 ∨ i = 15 := by omega
      rcases this with rfl | rfl | rfl | rfl | rfl | rfl | rfl | rfl | rfl | rfl | rfl | rfl | rfl | rfl | rfl | rfl <;> rfl⟩, fun _ => Iff.rfl⟩, Fr.alloc _ _ _, fun k hk => .inr (by omega)⟩)
    clear T1 hz
    generalize w1.alloc _ = w2 at *
    generalize w1.heap.size = g at *
    obtain ⟨P, x, hx⟩ := T2.out.at0
    have T3 : Hid (Top (Two (BA g (fun j => if j = ((0 : Nat) : Int) then true else false)) (Two (QX (p1 re hg ha pt tt sf 0) b) (Two (Blk a (.cells #[.int .i64 re, .int .i64 hg, .int .i64 ha, .int .i64 pt, .int .i64 tt, .bool sf] 23 (0, 0))) Nil))) W (w2.setCell ⟨g, 0, none⟩ (.bool true))) := hide (hx _ _ (x.set (i := 0) (by omega) true))
    obtain ⟨g0, gz⟩ := x.get (i := 0) (by omega)
    clear x hx T2
    go_upto_region 8 with fail
    clear g0 gz
    generalize w2.setCell _ _ = w3 at *
    go_wp2_with fail
    go_loopw [8, 9, 39] (fun u8 u9 v wr => ∃ (k : Nat) (p : Rq) (s : Bs), k ≤ len ∧ v = .int .i64 (k : Int) ∧ u8 = .int .i64 s.made ∧ u9 = .int .i64 s.ans ∧ Hid (J p s) ∧ Hid ((p.m2 ≤ hg ∧ p.hg ≤ hg) ∧ p.re = re) ∧ Hid (Top (Two (BA g s.run) (Two (QX p b) (Two (Blk a (.cells #[.int .i64 re, .int .i64 hg, .int .i64 ha, .int .i64 pt, .int .i64 tt, .bool sf] 23 (0, 0))) Nil))) W wr)) (fun _ _ v _ => len - (intOf v).toNat)
    case atStart => exact ⟨0, _, ⟨1, _, 0⟩, Nat.zero_le _, rfl, rfl, rfl, J0, M0, T3⟩
    case round =>
      clear T3 J0 M0
      obtain ⟨k, p, s, hk, rfl, rfl, rfl, HJ, HM, HI⟩ := hrel
      by_cases hlt : k < len
      · obtain ⟨pb, off, kd, nw, id, why, al, rfl, ⟨hc0, hc1, hc2, hc3, hc4⟩, hb, -, -, -, -⟩ := hst.out k hlt
        have e0 : wr.cell? ⟨pb, off + k * 5, none⟩ = some (.int .i64 kd) := (World.cell?_of_block (HI.out.fr.block pb hb (fun x => x))).trans hc0
        have e1 : wr.cell? ⟨pb, off + k * 5 + 1, none⟩ = some (.int .i64 nw) := (World.cell?_of_block (HI.out.fr.block pb hb (fun x => x))).trans hc1
        have e2 : wr.cell? ⟨pb, off + k * 5 + 2, none⟩ = some (.int .i64 id) := (World.cell?_of_block (HI.out.fr.block pb hb (fun x => x))).trans hc2
        have e3 : wr.cell? ⟨pb, off + k * 5 + 3, none⟩ = some (.int .i64 why) := (World.cell?_of_block (HI.out.fr.block pb hb (fun x => x))).trans hc3
        have e4 : wr.cell? ⟨pb, off + k * 5 + 4, none⟩ = some (.bool al) := (World.cell?_of_block (HI.out.fr.block pb hb (fun x => x))).trans hc4
        clear hc0 hc1 hc2 hc3 hc4 hst hb
        have T3 := hide (HI.out.put (Blk.new wr (stO kd nw id why al)))
        rw [show stO kd nw id why al = .cells #[.int .i64 kd, .int .i64 nw, .int .i64 id, .int .i64 why, .bool al] 26 (0, 0) from rfl] at T3
        go_upto_region 11 with fail
        generalize wr.alloc _ = w3 at *
        generalize wr.heap.size = ew at *
        clear e0 e1 e2 e3 e4 HI
        obtain ⟨_, x, -⟩ := T3.out.at0
        obtain ⟨e0, e1, e2, e3, e4⟩ := st_cells (kd := kd) (nw := nw) (id := id) (why := why) (al := al) x.1
        clear x
        obtain ⟨P, h1, h2⟩ := T3.out.at2
        have HX := hide h2
        have HC := hide (does_any p b w3 P kd nw id why al h1 HJ.out.ok)
        have HJ2 := hide (HJ.out.ds kd nw id why al)
        have HM2 : Hid (((dsP p kd nw id why al).m2 ≤ hg ∧ (dsP p kd nw id why al).hg ≤ hg) ∧ (dsP p kd nw id why al).re = re) := hide ⟨m2_ds HM.out.1.1 HM.out.1.2 R0.out.2.1 kd nw id why al, (Keep.ds p kd nw id why al).1.trans HM.out.2⟩
        have hAl := dsA_len HJ.out.ok kd nw id why al
        have hs9 : 0 ≤ s.made ∧ s.made ≤ 9 := by rw [HJ.out.made]; exact HJ.out.ok.num
        unfold stV at HC
        clear h1 h2 T3 HJ HM
        generalize dsA p kd nw id why al = A at *
        generalize dsP p kd nw id why al = p' at *
        generalize dsE p kd nw id why = er at *
        go_wp2_with fail
        refine HC.out.mono ?_
        rintro e w4 ⟨v, rfl, d⟩
        obtain ⟨sa, sc, rfl⟩ := d.fst_of.elim (fun _ z => RA.sh z)
        have T4 := hide (HX.out _ _ d)
        clear d HX HC e0 e1 e2 e3 e4
        obtain ⟨n, Hn⟩ : ∃ n, Hid (A.length = n) := ⟨_, hide rfl⟩
        rw [Hn.out] at T4 hAl ⊢
        go_wp2_with fail
        go_loopw [8, 9, 51] (fun u8 u9 v wr => ∃ j : Nat, j ≤ n ∧ v = .int .i64 (j : Int) ∧ u8 = .int .i64 (bfin s (A.take j)).made ∧ u9 = .int .i64 (bfin s (A.take j)).ans ∧ Hid (Top (Two (Blk ew (.cells #[.int .i64 kd, .int .i64 nw, .int .i64 id, .int .i64 why, .bool al] 26 (0, 0))) (Two (BA g (bfin s (A.take j)).run) (Two (Two (RA (.slice sa n sc) A) (QX p' b)) (Two (Blk a (.cells #[.int .i64 re, .int .i64 hg, .int .i64 ha, .int .i64 pt, .int .i64 tt, .bool sf] 23 (0, 0))) Nil)))) W wr)) (fun _ _ v _ => n - (intOf v).toNat)
        case atStart => exact ⟨0, Nat.zero_le _, rfl, rfl, rfl, T4⟩
        case round =>
          clear T4
          obtain ⟨j, hj, rfl, rfl, rfl, HI⟩ := hrel
          by_cases hlt2 : j < n
          · have hjl : j < A.length := by rw [Hn.out]; exact hlt2
            have hr := get_ok hjl
            have HB1 := hide (ball_at A HJ2.out.1 hr)
            have HB2 := hide (bfin_next (s := s) hr)
            have hmd := bfin_made (A.take j) s
            rw [List.length_take, Hn.out] at hmd
            obtain ⟨_, ⟨_, _, hra, -, -, -⟩, -⟩ := HI.out.at2
            obtain ⟨ga, off2, cap2, ee, -, -, y0, y1, y2⟩ := act_cells hra.1 hr
            simp only [Value.slice.injEq] at ee
            obtain ⟨rfl, -, rfl⟩ := ee
            generalize A[j] = y at *
            clear hr hjl hra
            generalize bfin s (A.take j) = bst at *
            obtain ⟨mk, rn, an⟩ := bst
            dsimp only at hmd HI
            obtain ⟨q1, q2, q3, q4, q5⟩ := HB1.out
            dsimp only at q1 q2 q3 q4 q5
            subst q1
            clear HB1
            obtain ⟨yk, yc, yw⟩ := y
            dsimp only at q2 q3 q4 q5 y0 y1 y2
            have HB : Hid ((wr.alloc (acO ⟨yk, yc, yw⟩)).heap[wr.heap.size]? = some (acO ⟨yk, yc, yw⟩)) := hide (hp_new _ _)
            have T5 := hide (HI.out.same (Fr.alloc none' wr (acO ⟨yk, yc, yw⟩)))
            rw [show acO ⟨yk, yc, yw⟩ = .cells #[.int .i64 yk, .int .i64 yc, .int .i64 yw] 53 (0, 0) from rfl] at HB T5
            have hgy : wr.heap.size ≠ g := by
              obtain ⟨_, x, -⟩ := HI.out.at1
              have := (BA.ob _ _).lt _ _ _ x ((x.2 g).2 rfl)
              intro e; omega
            go_upto_region 15 with fail
            clear y0 y1 y2 HI
            generalize wr.alloc _ = w5 at *
            generalize wr.heap.size = yb at *
            have hm0 : 0 ≤ mk := by omega
            have hm1 : mk ≤ 200 := by omega
            have h16 : decide (16 ≤ yc) = false := decide_eq_false (by omega)
            clear hmd
            by_cases k1 : yk = 1
            · subst k1
              obtain ⟨ci, rfl⟩ : ∃ ci : Nat, yc = (ci : Int) := ⟨yc.toNat, by have : ¬ yc < 0 := fun x => absurd (q3 x) (by decide); omega⟩
              have hci : ci < 16 := by omega
              have h16n : ¬ 16 ≤ ci := by omega
              have h16m : decide (16 ≤ ci) = false := decide_eq_false h16n
              have hcc : ((ci : Int) != (ci : Int)) = false := by simp
              obtain ⟨rfl, hw⟩ := q4 rfl
              clear q3 q4 q5 q2 h16
              rcases hw with rfl | rfl
              · have fin : Hid (bnx ⟨(ci : Int), rn, 0⟩ ⟨1, (ci : Int), 1⟩ = ⟨(ci : Int) + 1, fun i => if i = (ci : Int) then true else rn i, 0⟩) := hide (by simp [bnx])
                rw [fin.out] at HB2
                have y0 : w5.cell? ⟨yb, 0, none⟩ = some (.int .i64 1) := cell_of HB.out 0
                have y1 : w5.cell? ⟨yb, 1, none⟩ = some (.int .i64 (ci : Int)) := cell_of HB.out 1
                have y2 : w5.cell? ⟨yb, 2, none⟩ = some (.int .i64 1) := cell_of HB.out 2
                obtain ⟨PB, xb, hxb⟩ := T5.out.at1
                obtain ⟨gb, gz⟩ := xb.get hci
                have T6 := hide (hxb _ _ (xb.set hci true))
                have HB6 : Hid ((w5.setCell ⟨g, ci, none⟩ (.bool true)).heap[yb]? = some (.cells #[.int .i64 1, .int .i64 (ci : Int), .int .i64 1] 53 (0, 0))) := hide (by rw [hp_set_other _ _ _ _ _ hgy]; exact HB.out)
                clear xb hxb T5
                go_upto_region 28 with fail
                clear y0 y1 y2 gb gz HB
                generalize w5.setCell _ _ = w6 at *
                have y0 : w6.cell? ⟨yb, 0, none⟩ = some (.int .i64 1) := cell_of HB6.out 0
                clear HB6
                go_wp2_with fail
                go_roundw
                case rel => exact ⟨j + 1, by omega, by go_num, by rw [HB2.out], by rw [HB2.out], by rw [HB2.out]; exact T6⟩
                case measure => simp [intOf]; omega
              · have fin : Hid (bnx ⟨(ci : Int), rn, 0⟩ ⟨1, (ci : Int), 2⟩ = ⟨(ci : Int) + 1, fun i => if i = (ci : Int) then true else rn i, 0⟩) := hide (by simp [bnx])
                rw [fin.out] at HB2
                have y0 : w5.cell? ⟨yb, 0, none⟩ = some (.int .i64 1) := cell_of HB.out 0
                have y1 : w5.cell? ⟨yb, 1, none⟩ = some (.int .i64 (ci : Int)) := cell_of HB.out 1
                have y2 : w5.cell? ⟨yb, 2, none⟩ = some (.int .i64 2) := cell_of HB.out 2
                obtain ⟨PB, xb, hxb⟩ := T5.out.at1
                obtain ⟨gb, gz⟩ := xb.get hci
                have T6 := hide (hxb _ _ (xb.set hci true))
                have HB6 : Hid ((w5.setCell ⟨g, ci, none⟩ (.bool true)).heap[yb]? = some (.cells #[.int .i64 1, .int .i64 (ci : Int), .int .i64 2] 53 (0, 0))) := hide (by rw [hp_set_other _ _ _ _ _ hgy]; exact HB.out)
                clear xb hxb T5
                go_upto_region 28 with fail
                clear y0 y1 y2 gb gz HB
                generalize w5.setCell _ _ = w6 at *
                have y0 : w6.cell? ⟨yb, 0, none⟩ = some (.int .i64 1) := cell_of HB6.out 0
                clear HB6
                go_wp2_with fail
                go_roundw
                case rel => exact ⟨j + 1, by omega, by go_num, by rw [HB2.out], by rw [HB2.out], by rw [HB2.out]; exact T6⟩
                case measure => simp [intOf]; omega
            by_cases k2 : yk = 2
            · subst k2
              obtain ⟨ci, rfl⟩ : ∃ ci : Nat, yc = (ci : Int) := ⟨yc.toNat, by have : ¬ yc < 0 := fun x => absurd (q3 x) (by decide); omega⟩
              have hci : ci < 16 := by omega
              have h16n : ¬ 16 ≤ ci := by omega
              have h16m : decide (16 ≤ ci) = false := decide_eq_false h16n
              have hcc : ((ci : Int) != (ci : Int)) = false := by simp
              have hrn := q5 (.inl rfl)
              clear q3 q4 q5 q2 h16
              have fin : Hid (bnx ⟨mk, rn, 0⟩ ⟨2, (ci : Int), yw⟩ = ⟨mk, fun i => if i = (ci : Int) then false else rn i, 0⟩) := hide (by simp [bnx])
              rw [fin.out] at HB2
              have y0 : w5.cell? ⟨yb, 0, none⟩ = some (.int .i64 2) := cell_of HB.out 0
              have y1 : w5.cell? ⟨yb, 1, none⟩ = some (.int .i64 (ci : Int)) := cell_of HB.out 1
              have y2 : w5.cell? ⟨yb, 2, none⟩ = some (.int .i64 yw) := cell_of HB.out 2
              obtain ⟨PB, xb, hxb⟩ := T5.out.at1
              obtain ⟨gb, gz⟩ := xb.get hci
              have T6 := hide (hxb _ _ (xb.set hci false))
              have HB6 : Hid ((w5.setCell ⟨g, ci, none⟩ (.bool false)).heap[yb]? = some (.cells #[.int .i64 2, .int .i64 (ci : Int), .int .i64 yw] 53 (0, 0))) := hide (by rw [hp_set_other _ _ _ _ _ hgy]; exact HB.out)
              clear xb hxb T5
              rw [hrn] at gb
              go_upto_region 28 with fail
              clear y0 y1 y2 gb gz HB
              generalize w5.setCell _ _ = w6 at *
              have y0 : w6.cell? ⟨yb, 0, none⟩ = some (.int .i64 2) := cell_of HB6.out 0
              clear HB6
              go_wp2_with fail
              go_roundw
              case rel => exact ⟨j + 1, by omega, by go_num, by rw [HB2.out], by rw [HB2.out], by rw [HB2.out]; exact T6⟩
              case measure => simp [intOf]; omega
            by_cases k3 : yk = 3
            · subst k3
              obtain ⟨ci, rfl⟩ : ∃ ci : Nat, yc = (ci : Int) := ⟨yc.toNat, by have : ¬ yc < 0 := fun x => absurd (q3 x) (by decide); omega⟩
              have hci : ci < 16 := by omega
              have h16n : ¬ 16 ≤ ci := by omega
              have h16m : decide (16 ≤ ci) = false := decide_eq_false h16n
              have hcc : ((ci : Int) != (ci : Int)) = false := by simp
              have hrn := q5 (.inr rfl)
              clear q3 q4 q5 q2 h16
              have fin : Hid (bnx ⟨mk, rn, 0⟩ ⟨3, (ci : Int), yw⟩ = ⟨mk, fun i => if i = (ci : Int) then false else rn i, 1⟩) := hide (by simp [bnx])
              rw [fin.out] at HB2
              have y0 : w5.cell? ⟨yb, 0, none⟩ = some (.int .i64 3) := cell_of HB.out 0
              have y1 : w5.cell? ⟨yb, 1, none⟩ = some (.int .i64 (ci : Int)) := cell_of HB.out 1
              have y2 : w5.cell? ⟨yb, 2, none⟩ = some (.int .i64 yw) := cell_of HB.out 2
              obtain ⟨PB, xb, hxb⟩ := T5.out.at1
              obtain ⟨gb, gz⟩ := xb.get hci
              have T6 := hide (hxb _ _ (xb.set hci false))
              have HB6 : Hid ((w5.setCell ⟨g, ci, none⟩ (.bool false)).heap[yb]? = some (.cells #[.int .i64 3, .int .i64 (ci : Int), .int .i64 yw] 53 (0, 0))) := hide (by rw [hp_set_other _ _ _ _ _ hgy]; exact HB.out)
              clear xb hxb T5
              rw [hrn] at gb
              go_upto_region 28 with fail
              clear y0 y1 y2 gb gz HB
              generalize w5.setCell _ _ = w6 at *
              have y0 : w6.cell? ⟨yb, 0, none⟩ = some (.int .i64 3) := cell_of HB6.out 0
              clear HB6
              go_wp2_with fail
              go_roundw
              case rel => exact ⟨j + 1, by omega, by go_num, by rw [HB2.out], by rw [HB2.out], by rw [HB2.out]; exact T6⟩
              case measure => simp [intOf]; omega
            by_cases k4 : yk = 4
            · subst k4
              have fin : Hid (bnx ⟨mk, rn, 0⟩ ⟨4, yc, yw⟩ = ⟨mk, rn, 1⟩) := hide (by simp [bnx])
              rw [fin.out] at HB2
              have y0 : w5.cell? ⟨yb, 0, none⟩ = some (.int .i64 4) := cell_of HB.out 0
              have y1 : w5.cell? ⟨yb, 1, none⟩ = some (.int .i64 yc) := cell_of HB.out 1
              have y2 : w5.cell? ⟨yb, 2, none⟩ = some (.int .i64 yw) := cell_of HB.out 2
              clear q3 q4 q5
              by_cases hneg : yc < 0
              · have hnd : decide (yc < 0) = true := decide_eq_true hneg
                go_wp2_with fail
                go_roundw
                case rel => exact ⟨j + 1, by omega, by go_num, by rw [HB2.out], by rw [HB2.out], by rw [HB2.out]; exact T5⟩
                case measure => simp [intOf]; omega
              · have hnd : decide (yc < 0) = false := decide_eq_false hneg
                go_wp2_with fail
                go_roundw
                case rel => exact ⟨j + 1, by omega, by go_num, by rw [HB2.out], by rw [HB2.out], by rw [HB2.out]; exact T5⟩
                case measure => simp [intOf]; omega
            have c1 : (yk == 1) = false := by simpa using k1
            have c2 : (yk == 2) = false := by simpa using k2
            have c3 : (yk == 3) = false := by simpa using k3
            have c4 : (yk == 4) = false := by simpa using k4
            have fin : Hid (bnx ⟨mk, rn, 0⟩ ⟨yk, yc, yw⟩ = ⟨mk, rn, 0⟩) := hide (by simp [bnx, k1, k2, k3, k4])
            rw [fin.out] at HB2
            have hneg : ¬ yc < 0 := fun x => k4 (q3 x)
            have hnd : decide (yc < 0) = false := decide_eq_false hneg
            clear q3 q4 q5
            have y0 : w5.cell? ⟨yb, 0, none⟩ = some (.int .i64 yk) := cell_of HB.out 0
            have y1 : w5.cell? ⟨yb, 1, none⟩ = some (.int .i64 yc) := cell_of HB.out 1
            have y2 : w5.cell? ⟨yb, 2, none⟩ = some (.int .i64 yw) := cell_of HB.out 2
            go_wp2_with fail
            go_roundw
            case rel => exact ⟨j + 1, by omega, by go_num, by rw [HB2.out], by rw [HB2.out], by rw [HB2.out]; exact T5⟩
            case measure => simp [intOf]; omega
          · obtain rfl : j = n := by omega
            have etk : A.take j = A := by rw [← Hn.out]; exact List.take_length
            rw [etk] at HI ⊢
            obtain ⟨_, hJ⟩ := HJ2.out
            have HJ3 := hide hJ
            obtain ⟨P, x, hx⟩ := HI.out.drop.at1
            have T6 := hide (hx (QX p' b) wr (Does.refl x).snd)
            clear x hx HI HJ2 hJ
            generalize bfin s A = bst at *
            obtain ⟨mk, rn, an⟩ := bst
            have hmk : mk ≤ re + hg + 1 ∧ 0 ≤ mk := by
              have h1 := HJ3.out.made
              have h2 := HJ3.out.m0
              have h3 := HJ3.out.m1
              have h4 := HM2.out.1.1
              have h5 := HM2.out.2
              have h6 := HJ3.out.ok.num
              dsimp only at h1
              unfold numP at h1 h6
              omega
            obtain ⟨hm1, hm0⟩ := hmk
            have hd1 : decide (re + hg + 1 < mk) = false := decide_eq_false (by omega)
            obtain ⟨⟨p0, p1⟩, p2, p3⟩ := R0.out
            have hw1 : IntKind.i64.wrap (re + hg) = re + hg := IntWalk.i64_in _ ⟨by omega, by omega⟩
            have hw2 : IntKind.i64.wrap (re + hg + 1) = re + hg + 1 := IntWalk.i64_in _ ⟨by omega, by omega⟩
            obtain ⟨_, x, -⟩ := T6.out.at2
            obtain ⟨r0, r1, r2, r3, r4, r5⟩ := pl_cells (re := re) (hg := hg) (ha := ha) (pt := pt) (tt := tt) (sf := sf) x.1
            clear x
            obtain ⟨_, ⟨vr, x⟩, -⟩ := T6.out.at1
            have HO := hide (over_any p' b vr wr x.v)
            clear x
            have HAN := hide HJ3.out.ans
            dsimp only at T6
            rcases HAN.out with ⟨hr, han⟩ | ⟨hr, han⟩
            · dsimp only at han
              subst han
              rw [show p'.R.isEmpty = true by rw [hr]; rfl] at HO
              clear hr HAN hm1 hm0 p0 p1 p2 p3
              go_wp2_with (go_at_call 19; refine HO.out.mono ?_; rintro e w9 ⟨rfl, rfl⟩)
              go_roundw
              case rel => exact ⟨k + 1, p', ⟨mk, rn, 1⟩, by omega, by go_num, rfl, rfl, HJ3, HM2, T6⟩
              case measure => simp [intOf]; omega
            · dsimp only at han
              subst han
              rw [show p'.R.isEmpty = false by rw [List.isEmpty_eq_false_iff]; exact hr] at HO
              clear hr HAN hm1 hm0 p0 p1 p2 p3
              go_wp2_with (go_at_call 19; refine HO.out.mono ?_; rintro e w9 ⟨rfl, rfl⟩)
              go_roundw
              case rel => exact ⟨k + 1, p', ⟨mk, rn, 0⟩, by omega, by go_num, rfl, rfl, HJ3, HM2, T6⟩
              case measure => simp [intOf]; omega
      · have ek : k = len := by omega
        subst ek
        go_wp2_with (go_at_call 12; refine (speaks_any _).mono ?_; rintro e w9 ⟨rfl, HG⟩)
        go_ret
        exact ⟨rfl, (HI.out.fr.trans HG (fun _ _ x => x)).below (by omega) (fun _ _ x => x)⟩
  · have HN := hide (fun V => new_bad V re hg ha pt tt sf 0 (fun x => hA x.1))
    clear hA
    unfold plV at HN ⊢
    go_enter Try.func4, Try.ntmps4
    go_upto_region 1 with fail
    generalize W.alloc _ = w0 at *
    generalize hgA : W.heap.size = a at *
    obtain ⟨_, x, -⟩ := T0.out.at0
    obtain ⟨r0, r1, r2, r3, r4, r5⟩ := pl_cells (re := re) (hg := hg) (ha := ha) (pt := pt) (tt := tt) (sf := sf) x.1
    clear x
    go_wp2_with (first | (go_at_call 9; refine (HN.out _).mono ?_; rintro e w' ⟨rfl, HF⟩) | (go_at_call 12; refine (speaks_any _).mono ?_; rintro e w9 ⟨rfl, HG⟩))
    go_ret
    exact ⟨rfl, ((T0.out.fr.trans HF (fun _ _ x => x)).trans HG (fun _ _ x => x)).below (by omega) (fun _ _ x => x)⟩
end Go.Proofs.Ytjfpdenakgifgaa
