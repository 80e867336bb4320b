/- speaks: what a program that refuses everything does not meet. -/
import Derived.Test.YtinmpmbicgokpaaGreatDoorHPrint
import Derived.Lib.SlBytesConst
namespace Go.Proofs.YtinmpmbicgokpaaGreatDoor
open Go.ChangeShapes Go.WideShapes Go.ChangeAt Go.RowKit

def sp1 : List UInt8 := [71, 69, 84, 32, 47, 32, 72, 84, 84, 80, 47, 49, 46, 49, 13, 10, 72, 111, 115, 116, 58, 32, 97, 13, 10, 13, 10, 114, 101, 115, 116]
def sp2 : List UInt8 := [71, 69, 84, 32, 47, 32, 72, 84, 84, 80, 47, 49, 46, 49, 13, 10, 97, 32, 58, 32, 98, 13, 10]
def sp3 : List UInt8 := [71, 69, 84, 32, 47, 32, 72, 84, 84, 80, 47, 49, 46, 49, 13, 10, 72, 111, 115, 116, 58, 32, 97, 13, 10, 13, 10]
def hs1 : Hx := ⟨true, ⟨#[71, 69, 84]⟩, ⟨#[47]⟩, 1, 0, ⟨#[]⟩, [(⟨#[72, 111, 115, 116]⟩, ⟨#[97]⟩)]⟩
theorem bs_lit (w : World) (l : List UInt8) (c : Array Value) (fr : Nat × Nat) (hc : c.toList = l.map fun x => Value.int .u8 (x.toNat : Int)) : Bs (w.alloc (.cells c 5 fr)) (w.alloc (.cells c 5 fr)).heap.size (.slice (some ⟨w.heap.size, 0, none⟩) l.length l.length) l := by
  refine ⟨some ⟨w.heap.size, 0, none⟩, l.length, rfl, Nat.le_refl _, fun j hj => ?_⟩
  have hb := hp_new w (.cells c 5 fr)
  refine ⟨w.heap.size, 0, rfl, lt_heap hb, lt_heap hb, ?_⟩
  rw [cell_at hb, ← Array.getElem?_toList, hc, Nat.zero_add, List.getElem?_map, List.getElem?_eq_getElem hj]
  rfl
theorem parse1 : pParse true sp1 = (hs1, 27, 0) := by kernel_rfl
theorem parse2 : pParse true sp2 = (hx0, 0, 83) := by kernel_rfl
theorem itoa1 : itoaS 1 = ⟨#[49]⟩ := by
  unfold itoaS
  rw [show (1 : Int) = ((1 : Nat) : Int) from rfl, Lib.itoa_nonneg, Lib.decDigits]
  rfl
theorem text1 : textL hs1.hi = sp3 := by
  have h1 : firstS hs1.hi = ⟨#[71, 69, 84, 32, 47, 32, 72, 84, 84, 80, 47, 49, 46, 49]⟩ := by
    unfold firstS verS
    rw [show hs1.hi.mi = 1 from rfl, itoa1]
    rfl
  unfold textL
  rw [h1]
  rfl
theorem parse3 : pParse true sp3 = (hs1, 27, 0) := by kernel_rfl
theorem print1 : printB hs1.hi = true := by
  unfold printB
  rw [text1, show hs1.hi.r = true from rfl, parse3]
  exact Bool.and_eq_true_iff.2 ⟨rfl, hiEq_iff.2 rfl⟩
theorem hb1 : Hb hs1.hi := ⟨by decide, by decide, by decide, by decide, by decide, by decide, by decide, by decide, by decide⟩
set_option maxHeartbeats 4000000 in
set_option maxRecDepth 100000 in
theorem speaks_any (w : World) (ht : PT w) (hm : MX w) (he : ET w) : Calls Tryz.prog 12 #[] w fun e w' => e = .returned (.bool true) ∧ Below w.heap.size w w' := by
  have HT := hide ht
  have HM := hide hm
  have HE := hide he
  clear ht hm he
  have hcv : (convert 22 22 (.slice (some ⟨w.heap.size, 0, none⟩) 31 31)).run Tryz.prog (w.alloc (.cells #[.int .u8 71, .int .u8 69, .int .u8 84, .int .u8 32, .int .u8 47, .int .u8 32, .int .u8 72, .int .u8 84, .int .u8 84, .int .u8 80, .int .u8 47, .int .u8 49, .int .u8 46, .int .u8 49, .int .u8 13, .int .u8 10, .int .u8 72, .int .u8 111, .int .u8 115, .int .u8 116, .int .u8 58, .int .u8 32, .int .u8 97, .int .u8 13, .int .u8 10, .int .u8 13, .int .u8 10, .int .u8 114, .int .u8 101, .int .u8 115, .int .u8 116] 5)) = .ok (.slice (some ⟨w.heap.size, 0, none⟩) 31 31) (w.alloc (.cells #[.int .u8 71, .int .u8 69, .int .u8 84, .int .u8 32, .int .u8 47, .int .u8 32, .int .u8 72, .int .u8 84, .int .u8 84, .int .u8 80, .int .u8 47, .int .u8 49, .int .u8 46, .int .u8 49, .int .u8 13, .int .u8 10, .int .u8 72, .int .u8 111, .int .u8 115, .int .u8 116, .int .u8 58, .int .u8 32, .int .u8 97, .int .u8 13, .int .u8 10, .int .u8 13, .int .u8 10, .int .u8 114, .int .u8 101, .int .u8 115, .int .u8 116] 5 (31, 32))) := Lib.run_convert_bytes_const w 22 5 #[.int .u8 71, .int .u8 69, .int .u8 84, .int .u8 32, .int .u8 47, .int .u8 32, .int .u8 72, .int .u8 84, .int .u8 84, .int .u8 80, .int .u8 47, .int .u8 49, .int .u8 46, .int .u8 49, .int .u8 13, .int .u8 10, .int .u8 72, .int .u8 111, .int .u8 115, .int .u8 116, .int .u8 58, .int .u8 32, .int .u8 97, .int .u8 13, .int .u8 10, .int .u8 13, .int .u8 10, .int .u8 114, .int .u8 101, .int .u8 115, .int .u8 116] 31 31 Tryz.underlying22 Tryz.underlying5
  go_enter Tryz.func12, Tryz.ntmps12
  go_wp2_with fail
  have B0 := hide ((Below.refl _ w).alloc (Nat.le_refl _) (.cells #[.int .u8 71, .int .u8 69, .int .u8 84, .int .u8 32, .int .u8 47, .int .u8 32, .int .u8 72, .int .u8 84, .int .u8 84, .int .u8 80, .int .u8 47, .int .u8 49, .int .u8 46, .int .u8 49, .int .u8 13, .int .u8 10, .int .u8 72, .int .u8 111, .int .u8 115, .int .u8 116, .int .u8 58, .int .u8 32, .int .u8 97, .int .u8 13, .int .u8 10, .int .u8 13, .int .u8 10, .int .u8 114, .int .u8 101, .int .u8 115, .int .u8 116] 5 (31, 32)))
  have S0 := hide (bs_lit w sp1 #[.int .u8 71, .int .u8 69, .int .u8 84, .int .u8 32, .int .u8 47, .int .u8 32, .int .u8 72, .int .u8 84, .int .u8 84, .int .u8 80, .int .u8 47, .int .u8 49, .int .u8 46, .int .u8 49, .int .u8 13, .int .u8 10, .int .u8 72, .int .u8 111, .int .u8 115, .int .u8 116, .int .u8 58, .int .u8 32, .int .u8 97, .int .u8 13, .int .u8 10, .int .u8 13, .int .u8 10, .int .u8 114, .int .u8 101, .int .u8 115, .int .u8 116] (31, 32) rfl)
  clear hcv
  generalize (w.alloc (.cells #[.int .u8 71, .int .u8 69, .int .u8 84, .int .u8 32, .int .u8 47, .int .u8 32, .int .u8 72, .int .u8 84, .int .u8 84, .int .u8 80, .int .u8 47, .int .u8 49, .int .u8 46, .int .u8 49, .int .u8 13, .int .u8 10, .int .u8 72, .int .u8 111, .int .u8 115, .int .u8 116, .int .u8 58, .int .u8 32, .int .u8 97, .int .u8 13, .int .u8 10, .int .u8 13, .int .u8 10, .int .u8 114, .int .u8 101, .int .u8 115, .int .u8 116] 5 (31, 32))) = x at B0 S0 ⊢
  have P0 := hide (parse_any true _ sp1 x S0.out (by decide) (HM.out.below B0.out) (HE.out.below B0.out))
  rw [parse1] at P0
  refine P0.out.mono ?_
  rintro e w1 ⟨u, rfl, hu, bb⟩
  have B1 := hide (B0.out.trans (bb.mono B0.out.size))
  have F1 := hide (Flds.of_row hu)
  obtain ⟨ua, uc, rfl⟩ : ∃ a c, u = .slice a 1 c := by
    obtain ⟨a, c, h, _⟩ := hu.shape
    exact ⟨a, c, h⟩
  clear hu bb B0 S0 P0
  unfold hxV hs1
  dsimp only
  go_upto_region 2 with fail
  have T1 := hide (Bl.one w1 #[.bool true, .string ⟨#[71, 69, 84]⟩, .string ⟨#[47]⟩, .int .i64 1, .int .i64 0, .string ⟨#[]⟩, .slice ua 1 uc] 25)
  change Code.wp _ _ _ _ (w1.alloc (.cells #[.bool true, .string ⟨#[71, 69, 84]⟩, .string ⟨#[47]⟩, .int .i64 1, .int .i64 0, .string ⟨#[]⟩, .slice ua 1 uc] 25))
  have hz1 : (w1.alloc (.cells #[.bool true, .string ⟨#[71, 69, 84]⟩, .string ⟨#[47]⟩, .int .i64 1, .int .i64 0, .string ⟨#[]⟩, .slice ua 1 uc] 25)).heap.size = w1.heap.size + 1 := by simp
  generalize (w1.alloc (.cells #[.bool true, .string ⟨#[71, 69, 84]⟩, .string ⟨#[47]⟩, .int .i64 1, .int .i64 0, .string ⟨#[]⟩, .slice ua 1 uc] 25)) = y0 at T1 hz1 ⊢
  have hcv : (convert 22 22 (.slice (some ⟨y0.heap.size, 0, none⟩) 23 23)).run Tryz.prog (y0.alloc (.cells #[.int .u8 71, .int .u8 69, .int .u8 84, .int .u8 32, .int .u8 47, .int .u8 32, .int .u8 72, .int .u8 84, .int .u8 84, .int .u8 80, .int .u8 47, .int .u8 49, .int .u8 46, .int .u8 49, .int .u8 13, .int .u8 10, .int .u8 97, .int .u8 32, .int .u8 58, .int .u8 32, .int .u8 98, .int .u8 13, .int .u8 10] 5)) = .ok (.slice (some ⟨y0.heap.size, 0, none⟩) 23 23) (y0.alloc (.cells #[.int .u8 71, .int .u8 69, .int .u8 84, .int .u8 32, .int .u8 47, .int .u8 32, .int .u8 72, .int .u8 84, .int .u8 84, .int .u8 80, .int .u8 47, .int .u8 49, .int .u8 46, .int .u8 49, .int .u8 13, .int .u8 10, .int .u8 97, .int .u8 32, .int .u8 58, .int .u8 32, .int .u8 98, .int .u8 13, .int .u8 10] 5 (23, 24))) := Lib.run_convert_bytes_const y0 22 5 #[.int .u8 71, .int .u8 69, .int .u8 84, .int .u8 32, .int .u8 47, .int .u8 32, .int .u8 72, .int .u8 84, .int .u8 84, .int .u8 80, .int .u8 47, .int .u8 49, .int .u8 46, .int .u8 49, .int .u8 13, .int .u8 10, .int .u8 97, .int .u8 32, .int .u8 58, .int .u8 32, .int .u8 98, .int .u8 13, .int .u8 10] 23 23 Tryz.underlying22 Tryz.underlying5
  clear hz1
  go_wp2_with fail
  have S1 := hide (bs_lit y0 sp2 #[.int .u8 71, .int .u8 69, .int .u8 84, .int .u8 32, .int .u8 47, .int .u8 32, .int .u8 72, .int .u8 84, .int .u8 84, .int .u8 80, .int .u8 47, .int .u8 49, .int .u8 46, .int .u8 49, .int .u8 13, .int .u8 10, .int .u8 97, .int .u8 32, .int .u8 58, .int .u8 32, .int .u8 98, .int .u8 13, .int .u8 10] (23, 24) rfl)
  have T1' := hide (T1.out.below ((Below.refl _ y0).alloc (Nat.le_refl _) (.cells #[.int .u8 71, .int .u8 69, .int .u8 84, .int .u8 32, .int .u8 47, .int .u8 32, .int .u8 72, .int .u8 84, .int .u8 84, .int .u8 80, .int .u8 47, .int .u8 49, .int .u8 46, .int .u8 49, .int .u8 13, .int .u8 10, .int .u8 97, .int .u8 32, .int .u8 58, .int .u8 32, .int .u8 98, .int .u8 13, .int .u8 10] 5 (23, 24))))
  clear hcv T1
  have T1 := T1'
  clear T1'
  generalize (y0.alloc (.cells #[.int .u8 71, .int .u8 69, .int .u8 84, .int .u8 32, .int .u8 47, .int .u8 32, .int .u8 72, .int .u8 84, .int .u8 84, .int .u8 80, .int .u8 47, .int .u8 49, .int .u8 46, .int .u8 49, .int .u8 13, .int .u8 10, .int .u8 97, .int .u8 32, .int .u8 58, .int .u8 32, .int .u8 98, .int .u8 13, .int .u8 10] 5 (23, 24))) = y at T1 S1 ⊢
  have B2 := hide (B1.out.trans (T1.out.b.mono B1.out.size))
  have P1 := hide (parse_any true _ sp2 y S1.out (by decide) (HM.out.below B2.out) (HE.out.below B2.out))
  rw [parse2] at P1
  refine P1.out.mono ?_
  rintro e w2 ⟨u, rfl, hu, bb⟩
  obtain ⟨va, vc, rfl⟩ : ∃ a c, u = .slice a 0 c := by
    obtain ⟨a, c, h, _⟩ := hu.shape
    exact ⟨a, c, h⟩
  have T2 := hide (T1.out.below bb)
  clear hu bb S1 P1 T1 B2
  unfold hxV hx0
  dsimp only
  obtain ⟨r0, r1, r2, r3, r4, r5, r6⟩ := T2.out.hd 0 w1.heap.size rfl rfl
  go_upto_region 3 with fail
  have D2 := hide ((Below.refl _ w2).alloc (Nat.le_refl _) (.cells #[.bool false, .string ⟨#[]⟩, .string ⟨#[]⟩, .int .i64 0, .int .i64 0, .string ⟨#[]⟩, .slice va 0 vc] 25))
  have T3 := hide (T2.out.below D2.out)
  change Code.wp _ _ _ _ (w2.alloc (.cells #[.bool false, .string ⟨#[]⟩, .string ⟨#[]⟩, .int .i64 0, .int .i64 0, .string ⟨#[]⟩, .slice va 0 vc] 25))
  generalize (w2.alloc (.cells #[.bool false, .string ⟨#[]⟩, .string ⟨#[]⟩, .int .i64 0, .int .i64 0, .string ⟨#[]⟩, .slice va 0 vc] 25)) = z at T3 D2 ⊢
  clear T2 D2 r0 r1 r2 r3 r4 r5 r6
  obtain ⟨r0, r1, r2, r3, r4, r5, r6⟩ := T3.out.hd 0 w1.heap.size rfl rfl
  have B3 := hide (B1.out.trans (T3.out.b.mono B1.out.size))
  have P2 := hide (print_any hs1.hi (.slice ua 1 uc) z (F1.out.below T3.out.b) hb1 (HT.out.below B3.out) (HM.out.below B3.out) (HE.out.below B3.out))
  rw [print1, if_pos rfl, if_pos rfl] at P2
  rw [show textS hs1.hi = ⟨#[71, 69, 84, 32, 47, 32, 72, 84, 84, 80, 47, 49, 46, 49, 13, 10, 72, 111, 115, 116, 58, 32, 97, 13, 10, 13, 10]⟩ by unfold textS; rw [text1]; rfl] at P2
  go_wp2_with fail
  refine P2.out.mono ?_
  rintro e w3 ⟨rfl, bb⟩
  have T4 := hide (T3.out.below bb)
  clear bb P2 r0 r1 r2 r3 r4 r5 r6
  have r1 : w3.cell? ⟨w1.heap.size, 1, none⟩ = some (.string ⟨#[71, 69, 84]⟩) := T4.out.cell 0 rfl 1
  have r6 : w3.cell? ⟨w1.heap.size, 6, none⟩ = some (.slice ua 1 uc) := T4.out.cell 0 rfl 6
  go_wp2
  go_ret
  exact ⟨rfl, B1.out.trans (T4.out.b.mono B1.out.size)⟩
end Go.Proofs.YtinmpmbicgokpaaGreatDoor
