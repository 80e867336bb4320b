/- WorldApart returns true for all steps and all bytes of bulk at most 1048576, and changes nothing that was there. -/
import Derived.Test.YtpgbpfdgbajhlaaAsks3
import Derived.Deep.RegionWith
import Derived.Lib.SlBytesConst
namespace Go.Proofs.Ytpgbpfdgbajhlaa
open Go.ChangeShapes Go.WideShapes Go.ChangeAt Go.RowKit

def cnM (B L : List Int) (r : Int) : Cn := ⟨1000, true, false, B, L, r⟩
/-- What holds ahead of each round. -/
structure ApInv (W0 : World) (c : Nat) (B : List Int) (m n : Nat) (wr : World) (S : List Cn) (ow : Nat → Option Tag) : Prop where
  wd : Wd wr c S [] ow
  old : Fr (fun i => W0.heap.size ≤ i) W0 wr
  no : ∀ b, b < W0.heap.size → ow b = none
  hd : S[0]? = some (cnM B [] 9)
  len : S.length ≤ n + 1
  sent : ∀ x ∈ S, x.sent.length ≤ m

theorem Sl.ten (W : World) : Sl (W.alloc (.cells #[.int .u8 48, .int .u8 49, .int .u8 50, .int .u8 51, .int .u8 52, .int .u8 53, .int .u8 54, .int .u8 55, .int .u8 56, .int .u8 57] 5 (10, 11))) .u8 (.slice (some ⟨W.heap.size, 0, none⟩) 10 10) [48, 49, 50, 51, 52, 53, 54, 55, 56, 57] :=
  Sl.lit W #[.int .u8 48, .int .u8 49, .int .u8 50, .int .u8 51, .int .u8 52, .int .u8 53, .int .u8 54, .int .u8 55, .int .u8 56, .int .u8 57] [48, 49, 50, 51, 52, 53, 54, 55, 56, 57] 10 (10, 11) (by decide) (fun i hi => by
    have : i < 10 := hi
    have : i = 0 ∨ i = 1 ∨ i = 2 ∨ i = 3 ∨ i = 4 ∨ i = 5 ∨ i = 6 ∨ i = 7 ∨ i = 8 ∨ i = 9 := by omega
    rcases this with rfl | rfl | rfl | rfl | rfl | rfl | rfl | rfl | rfl | rfl <;> rfl)

theorem ApInv.step {W0 : World} {c : Nat} {B : List Int} {m n m' l : Nat} {wr wr' : World} {S : List Cn} {ow : Nat → Option Tag} (h : ApInv W0 c B m n wr S ow) (F : Fr (fun _ => False) wr wr') (hm : m' = m + l) : ApInv W0 c B m' (n + 1) wr' S ow :=
  ⟨h.wd.frame F.size (fun b t e => F.block b (h.wd.low b t e) (fun e => e)), h.old.trans F (fun _ _ e => e.elim), h.no, h.hd, by have := h.len; omega, fun x hx => by have := h.sent x hx; omega⟩

set_option maxHeartbeats 4000000 in
set_option maxRecDepth 100000 in
theorem apart_walk (a0 a1 : Option Addr) (len0 cap0 cap1 : Nat) (B : List Int) (Xf : Nat → List Int) (W : World) (hB : Hid (Sl W .u8 (.slice a1 B.length cap1) B)) (hlen : len0 ≤ 1048576) (hBl : B.length ≤ 1048576)
    (hst : Hid (∀ i, i < len0 → ∃ b off kd c n a cap, a0 = some ⟨b, off, none⟩ ∧ StepAt W b off i kd c n a cap (Xf i))) (htot : Hid (∀ j, j ≤ len0 → total Xf j ≤ 1048576)) :
    Calls Try.prog 7 #[.slice a0 len0 cap0, .slice a1 B.length cap1] W fun e w' => e = .returned (.bool true) ∧ Below W.heap.size W w' := by
  have kc := fun (w : World) (C : Array Value) (n c : Nat) => Lib.run_convert_bytes_const (P := Try.prog) w 30 5 C n c Try.underlying30 Try.underlying5
  go_enter Try.func7, Try.ntmps7
  go_wp2_with fail
  refine (does_new W).mono ?_
  rintro e w1 ⟨rfl, rfl⟩
  have D1 := hide (Wd.begin W)
  have K1 := hide (Kp.begin W)
  obtain ⟨w1, hw1⟩ : ∃ w1, w1 = W.alloc (.cells #[.map none, .map none, .slice none 0 0] 61) := ⟨_, rfl⟩
  rw [← hw1] at D1 K1 ⊢
  have o1 := hide (does_open D1.out (k := 1000) (by omega) (by omega) nofun (by simp) (by simp))
  clear hw1 D1
  unfold ptr at o1 ⊢
  go_wp2_with fail
  refine o1.out.mono ?_
  rintro e w2 ⟨rfl, own2, D2, K2⟩
  replace D2 : Hid (Wd w2 W.heap.size [cnM [] [] 0] [] own2) := hide D2
  replace K1 := hide (K1.out.trans K2)
  clear o1 K2
  go_wp2_with fail
  refine (does_room D2.out (i := 0) (x := cnM [] [] 0) rfl rfl (n := 9) (by omega)).mono ?_
  rintro e w3 ⟨rfl, D3, K3⟩
  replace D3 : Hid (Wd w3 W.heap.size [cnM [] [] 9] [] own2) := hide D3
  replace K1 := hide (K1.out.trans K3)
  clear D2 K3
  have hS0 := hide (hB.out.keep (W' := w3) (fun b hb _ => K1.out.fr.block b hb (fun e => e rfl)))
  go_wp2_with fail
  refine (does_arrive D3.out (i := 0) (x := cnM [] [] 9) rfl rfl rfl hS0.out (by simp only [cnM]; simp; omega)).mono ?_
  rintro e w4 ⟨rfl, own4, D4, K4⟩
  have I0 : Hid (∃ S ow, ApInv W W.heap.size B (total Xf 0) 0 w4 S ow) := hide ⟨[cnM B [] 9], own4, D4, (K1.out.trans K4).fr.mono (fun _ _ e => (e rfl).elim), fun b hb => (K1.out.trans K4).no b hb rfl, rfl, by simp, by simp [cnM]⟩
  clear K1 K4 hS0 D3 D4
  go_wp2_with fail
  go_loopw [34] (fun v wr => ∃ (j : Nat), j ≤ len0 ∧ v = .int .i64 (j : Int) ∧ Hid (∃ S ow, ApInv W W.heap.size B (total Xf j) j wr S ow)) (fun v _ => len0 - (intOf v).toNat)
  case atStart => exact ⟨0, Nat.zero_le _, rfl, I0⟩
  case round =>
    clear I0
    obtain ⟨j, hj, rfl, HI⟩ := hrel
    obtain ⟨S, ow, HI⟩ := HI.out
    by_cases hlt : j < len0
    · have ht1 := htot.out (j + 1) (by omega)
      have ht2 : total Xf (j + 1) = total Xf j + (Xf j).length := rfl
      obtain ⟨pb, po, kd, k, n, xa, xc, rfl, P0⟩ := hst.out j hlt
      have P1 := P0.frame HI.old
      have c0 := P1.c0
      have c1 := P1.c1
      have c2 := P1.c2
      have c3 := P1.c3
      have kwf := P0.cwf
      obtain ⟨X, HX⟩ : ∃ X, Hid (Xf j = X) := ⟨_, hide rfl⟩
      rw [HX.out] at c3 ht2 P0
      have hXl : X.length ≤ 1048576 := by omega
      have hm : total Xf j ≤ 1048576 := by omega
      have hSl := hide P0.sl
      have HI' := hide HI
      have Ht := hide ht2
      clear P1 P0 hst HX htot HI ht1 ht2 hB
      by_cases hk : k = 1000
      · subst hk
        go_wp2_with fail
        go_roundw
        case rel => exact ⟨j + 1, by omega, by go_num, hide ⟨S, ow, HI'.out.step (Fr.alloc _ _ _) Ht.out⟩⟩
        case measure => simp [intOf]; omega
      · by_cases hkd : kd < 7
        · go_wp2_with fail
          have FA := Fr.alloc (fun _ => False) wr (.cells #[.int .i64 kd, .int .i64 k, .int .i64 n, .slice xa X.length xc] 32)
          have hz : (wr.alloc (.cells #[.int .i64 kd, .int .i64 k, .int .i64 n, .slice xa X.length xc] 32)).heap.size = wr.heap.size + 1 := by simp
          have T1 := Two.fresh (W0 := ⟨W, wr.heap.size, .cells #[.int .i64 kd, .int .i64 k, .int .i64 n, .slice xa X.length xc] 32 (0, 0)⟩) (HI'.out.step FA Ht.out).wd (HI'.out.step FA Ht.out).old HI'.out.no (MapKept.heap_alloc wr _).1 (HI'.out.wd.fresh (Nat.le_refl _))
          rw [hz] at T1
          refine (asks_any T1 (sOk_nil W) kd k n xa xc X kwf hSl.out hXl (by have := HI'.out.len; omega) (by simp) (fun x hx => by have := HI'.out.sent x hx; omega) nofun).mono ?_
          intro e V hV
          obtain ⟨b, rfl, -, ow', ox', T2⟩ := hV
          have T3 := hide T2
          rw [sStep_none S kd k n X hkd] at T3
          have hC := hide (sStep_chg S [] kd k n X)
          clear FA hz T1 T2 c0 c1 c2 c3
          go_wp2_with fail
          go_roundw
          case rel => exact ⟨j + 1, by omega, by go_num, hide ⟨_, _, T3.out.wd, T3.out.old, T3.out.noW, hC.out.head HI'.out.hd (fun e => hk e.symm), by have := hC.out.len; have := HI'.out.len; omega, by rw [Ht.out]; exact hC.out.sent HI'.out.sent⟩⟩
          case measure => simp [intOf]; omega
        · have hkd2 : 7 ≤ kd := by omega
          clear hkd
          go_wp2_with fail
          go_roundw
          case rel => exact ⟨j + 1, by omega, by go_num, hide ⟨S, ow, HI'.out.step (Fr.alloc _ _ _) Ht.out⟩⟩
          case measure => simp [intOf]; omega
    · have ej : j = len0 := by omega
      subst ej
      have hBw := hide (hB.out.keep (W' := wr) (fun b hb _ => HI.old.block b hb (by omega)))
      have HD := hide HI.wd
      have HH := hide HI.hd
      have H0 : Hid (0 < S.length) := hide (List.getElem?_eq_some_iff.1 HI.hd).1
      have HF := hide HI.old
      have HN := hide HI.no
      clear hst htot HI
      go_wp2_with fail
      refine (does_waits HD.out HH.out rfl).mono ?_
      rintro e w5 ⟨rfl, D5, K5⟩
      replace HD := hide D5
      replace HF := hide (HF.out.trans K5.fr (fun b hb e => absurd (HN.out b hb) e))
      clear D5 K5 hBw
      simp only [cnM]
      go_wp2_with fail
      refine (does_read HD.out HH.out rfl (B.length : Int)).mono ?_
      rintro e w6 ⟨v6, go6, own6, rfl, R6, G6, D6, K6⟩
      have ec : clip (B.length : Int) (cnM B [] 9).waits = B.length := by simp [clip, cnM]
      rw [ec] at R6 D6
      replace R6 : Hid (Row w6 .u8 v6 B go6 ∧ ∀ g, go6 = some g → own6 g = none) := hide ⟨by simpa [cnM] using R6, fun g e => (G6 g e).2⟩
      replace D6 : Hid (Wd w6 W.heap.size (S.set 0 (cnM [] [] 9)) [] own6) := hide (by simpa [cnM] using D6)
      have hz5 := HF.out.size
      replace HF := hide (HF.out.trans K6.fr (fun b hb e => absurd (HN.out b hb) e))
      replace HN : Hid (∀ b, b < W.heap.size → own6 b = none) := hide (fun b hb => K6.no b (Nat.lt_of_lt_of_le hb hz5) (HN.out b hb))
      clear G6 K6 HD ec HH hz5
      go_wp2_with fail
      obtain ⟨D7, K7⟩ := D6.out.apartF (Fr.alloc (fun _ => False) w6 (.cells #[.int .u8 48, .int .u8 49, .int .u8 50, .int .u8 51, .int .u8 52, .int .u8 53, .int .u8 54, .int .u8 55, .int .u8 56, .int .u8 57] 5 (10, 11)))
      refine (does_write D7 (i := 0) (x := cnM [] [] 9) (by have := H0.out; simp [this]) rfl (Sl.ten w6) (by decide)).mono ?_
      rintro e w7 ⟨rfl, own7, D8, K8⟩
      have em : min (([48, 49, 50, 51, 52, 53, 54, 55, 56, 57] : List Int).length : Int) (cnM [] [] 9).room = 9 := rfl
      rw [em] at D8 ⊢
      replace D8 : Hid (Wd w7 W.heap.size ((S.set 0 (cnM [] [] 9)).set 0 (cnM [] [48, 49, 50, 51, 52, 53, 54, 55, 56] 0)) [] own7) := hide D8
      have K9 := K7.trans K8
      have hz6 := HF.out.size
      replace HF := hide (HF.out.trans K9.fr (fun b hb e => absurd (HN.out b hb) e))
      replace HN : Hid (∀ b, b < W.heap.size → own7 b = none) := hide (fun b hb => K9.no b (Nat.lt_of_lt_of_le hb hz6) (HN.out b hb))
      have R7 := hide (R6.out.1.through K9 R6.out.2)
      have hs12 := hide (does_sent D8.out (i := 0) (x := cnM [] [48, 49, 50, 51, 52, 53, 54, 55, 56] 0) (by have := H0.out; simp [this]))
      have hB7 := hide (hB.out.keep (W' := w7) (fun b hb _ => HF.out.block b hb (by omega)))
      have t1 := R7.out.1.sl.text
      have t2 := hB7.out.text
      clear em K7 K8 K9 D6 D7 R6 hB hz6
      unfold ptr at hs12
      simp only [cnM] at hs12
      go_wp2_with fail
      refine hs12.out.mono ?_
      rintro e w8 ⟨v8, go8, rfl, R8, -, -, K10⟩
      have t8 := R8.sl.text
      have es : strOfNums [48, 49, 50, 51, 52, 53, 54, 55, 56] = ⟨#[48, 49, 50, 51, 52, 53, 54, 55, 56]⟩ := by rfl
      rw [es] at t8
      replace HF := hide (HF.out.trans K10.fr (fun b hb e => absurd (HN.out b hb) e))
      clear es R8 K10 hs12 hB7 R7 HN t1 t2
      go_wp2_with fail
      refine (speaks_any _).mono ?_
      rintro e w9 ⟨rfl, F9⟩
      replace HF := hide (HF.out.trans F9 (fun _ _ e => e.elim))
      clear F9 t8
      go_wp2_with fail
      go_ret
      exact ⟨rfl, HF.out.below (Nat.le_refl _) (fun k hk e => by omega)⟩
end Go.Proofs.Ytpgbpfdgbajhlaa
