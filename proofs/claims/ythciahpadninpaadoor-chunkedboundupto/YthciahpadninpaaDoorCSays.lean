/- speaks. -/
import Derived.Test.YthciahpadninpaaDoorCNil
namespace Go.Proofs.YthciahpadninpaaDoor
open Go.ChangeShapes Go.WideShapes Go.ChangeAt Go.RowKit

def sp3 : List UInt8 := [97, 98]
theorem PK.low {w w' : World} {base g : Nat} {lv' tv' : Value} (h : PK w w' g (.slice none 0 0) (.slice none 0 0) lv' tv') (hb : base ≤ g) (hw : base ≤ w.heap.size) : Below base w w' :=
  ⟨h.os, h.tape, h.output, h.size, fun k hk => h.block k (Nat.lt_of_lt_of_le hk hw) (fun e => by omega) (by simp [Value.ownBlock]) (by simp [Value.ownBlock])⟩
theorem bf_lit (w : World) (l : List UInt8) (c : Array Value) (fr : Nat × Nat) (hc : c.toList = l.map fun x => Value.int .u8 (x.toNat : Int)) : Bf (w.alloc (.cells c 5 fr)) (fun k => k = w.heap.size) (.slice (some ⟨w.heap.size, 0, none⟩) l.length l.length) l := by
  refine ⟨some ⟨w.heap.size, 0, none⟩, l.length, rfl, Nat.le_refl _, fun j hj => ?_⟩
  have hb := hp_new w (.cells c 5 fr)
  refine ⟨w.heap.size, 0, rfl, rfl, lt_heap hb, ?_⟩
  rw [cell_at hb, ← Array.getElem?_toList, hc, Nat.zero_add, List.getElem?_map, List.getElem?_eq_getElem hj]
  rfl
/-- Feed of a new decoder at a text that was just written out. -/
theorem feed_lit {x : World} {B g : Nat} {n : Nat} (hD : Dec x B g (.slice none 0 0) (.slice none 0 0) (dNew n)) (hn : n ≤ 9007199254740992) (hb : 2 ≤ B) (l : List UInt8) (c : Array Value) (fr : Nat × Nat) (hc : c.toList = l.map fun x => Value.int .u8 (x.toNat : Int)) (hl : l.length ≤ 70368744177664) (hm : MX (x.alloc (.cells c 5 fr))) :
    Calls Tryd.prog 13 #[.pointer (some ⟨g, 0, none⟩), .slice (some ⟨x.heap.size, 0, none⟩) l.length l.length] (x.alloc (.cells c 5 fr)) fun e w' => ∃ bv lv' tv', e = .returned (.tuple #[bv, .int .i64 ((dBytes (dNew n) l).2.1 : Int), .bool (dBytes (dNew n) l).2.2.2.whole, .int .i64 ((dBytes (dNew n) l).1 : Int)]) ∧ Row w' (x.alloc (.cells c 5 fr)).heap.size 5 bv (bc (dBytes (dNew n) l).2.2.1) ∧ PK (x.alloc (.cells c 5 fr)) w' g (.slice none 0 0) (.slice none 0 0) lv' tv' := by
  have bl := (Below.refl x.heap.size x).alloc (Nat.le_refl _) (.cells c 5 fr)
  have hg := hD.lt
  refine (feed_on (A := fun k => k = x.heap.size) (hD.below bl) (fit_dnew n hn) rfl rfl hm hb _ l (bf_lit x l c fr hc) (.inr ⟨_, _, _, rfl⟩) (by omega) (fun k e => by simp [Value.ownBlock] at e) (fun k e => by simp [Value.ownBlock] at e) (fun k e => by rw [e]; simp) hl).mono ?_
  rintro e w' ⟨bv, lv', tv', rfl, hr, _, hk⟩
  exact ⟨bv, lv', tv', rfl, hr, hk⟩
set_option maxHeartbeats 4000000 in
set_option maxRecDepth 100000 in
theorem speaks_any (w : World) (hm : MX w) (hdb : DB w) : Calls Tryd.prog 11 #[] w fun e w' => e = .returned (.bool true) ∧ Below w.heap.size w w' := by
  have HM := hide hm
  have HDB := hide hdb
  have hw2 : 2 ≤ w.heap.size := hm.1
  clear hm hdb
  have HN := hide (new_any 9 w (by decide))
  change Hid (Calls _ _ #[.int .i64 9] _ _) at HN
  go_enter Tryd.func11, Tryd.ntmps11
  go_wp2_with fail
  refine HN.out.mono ?_
  rintro e w1 ⟨rfl, hd1, hb1⟩
  have HN2 := hide (new_any 9 w1 (by decide))
  change Hid (Calls _ _ #[.int .i64 9] _ _) at HN2
  have D1 := hide hd1
  have B1 := hide hb1
  have hg1 := hd1.lt
  have hs1 := hb1.size
  clear hd1 hb1 HN
  go_wp2_with fail
  refine HN2.out.mono ?_
  rintro e w2 ⟨rfl, hd2, hb2⟩
  have D1' := hide (D1.out.below hb2)
  have D2 := hide hd2
  have B2 := hide (B1.out.trans (hb2.mono B1.out.size))
  have hg2 := hd2.lt
  have hs2 := hb2.size
  clear hd2 hb2 HN2 D1 B1
  have hcv : (convert 29 29 (.slice (some ⟨w2.heap.size, 0, none⟩) 15 15)).run Tryd.prog (w2.alloc (.cells #[.int .u8 51, .int .u8 59, .int .u8 120, .int .u8 13, .int .u8 10, .int .u8 97, .int .u8 98, .int .u8 99, .int .u8 13, .int .u8 10, .int .u8 48, .int .u8 13, .int .u8 10, .int .u8 13, .int .u8 10] 5)) = .ok (.slice (some ⟨w2.heap.size, 0, none⟩) 15 15) (w2.alloc (.cells #[.int .u8 51, .int .u8 59, .int .u8 120, .int .u8 13, .int .u8 10, .int .u8 97, .int .u8 98, .int .u8 99, .int .u8 13, .int .u8 10, .int .u8 48, .int .u8 13, .int .u8 10, .int .u8 13, .int .u8 10] 5 (15, 16))) := Lib.run_convert_bytes_const w2 29 5 #[.int .u8 51, .int .u8 59, .int .u8 120, .int .u8 13, .int .u8 10, .int .u8 97, .int .u8 98, .int .u8 99, .int .u8 13, .int .u8 10, .int .u8 48, .int .u8 13, .int .u8 10, .int .u8 13, .int .u8 10] 15 15 Tryd.underlying29 Tryd.underlying5
  go_wp2_with fail
  have B3 := hide (B2.out.trans (((Below.refl _ w2).alloc (Nat.le_refl _) (.cells #[.int .u8 51, .int .u8 59, .int .u8 120, .int .u8 13, .int .u8 10, .int .u8 97, .int .u8 98, .int .u8 99, .int .u8 13, .int .u8 10, .int .u8 48, .int .u8 13, .int .u8 10, .int .u8 13, .int .u8 10] 5 (15, 16))).mono B2.out.size))
  have BX := hide ((Below.refl _ w2).alloc (Nat.le_refl _) (.cells #[.int .u8 51, .int .u8 59, .int .u8 120, .int .u8 13, .int .u8 10, .int .u8 97, .int .u8 98, .int .u8 99, .int .u8 13, .int .u8 10, .int .u8 48, .int .u8 13, .int .u8 10, .int .u8 13, .int .u8 10] 5 (15, 16)))
  have P0 := hide (feed_lit D1'.out (by decide) hw2 sp1 #[.int .u8 51, .int .u8 59, .int .u8 120, .int .u8 13, .int .u8 10, .int .u8 97, .int .u8 98, .int .u8 99, .int .u8 13, .int .u8 10, .int .u8 48, .int .u8 13, .int .u8 10, .int .u8 13, .int .u8 10] (15, 16) rfl (by decide) (HM.out.below B3.out))
  have D2' := hide (D2.out.below BX.out)
  have hz3 : (w2.alloc (.cells #[.int .u8 51, .int .u8 59, .int .u8 120, .int .u8 13, .int .u8 10, .int .u8 97, .int .u8 98, .int .u8 99, .int .u8 13, .int .u8 10, .int .u8 48, .int .u8 13, .int .u8 10, .int .u8 13, .int .u8 10] 5 (15, 16))).heap.size = w2.heap.size + 1 := by simp
  clear hcv D1' D2 BX
  generalize (w2.alloc (.cells #[.int .u8 51, .int .u8 59, .int .u8 120, .int .u8 13, .int .u8 10, .int .u8 97, .int .u8 98, .int .u8 99, .int .u8 13, .int .u8 10, .int .u8 48, .int .u8 13, .int .u8 10, .int .u8 13, .int .u8 10] 5 (15, 16))) = x at B3 P0 D2' hz3 ⊢
  rw [said1.1, said1.2.1, said1.2.2.1, said1.2.2.2] at P0
  refine P0.out.mono ?_
  rintro e w3 ⟨bv, lv', tv', rfl, hr, hk⟩
  have hs3 := hk.size
  have B4 := hide (B3.out.trans (hk.low (base := w.heap.size) (by omega) (by omega)))
  have D2 := hide (D2'.out.frame (w' := w3) fun k h => hk.block k (by rcases h with rfl | h | h <;> first | omega | simp [Value.ownBlock] at h) (by rcases h with rfl | h | h <;> first | omega | simp [Value.ownBlock] at h) (by simp [Value.ownBlock]) (by simp [Value.ownBlock]))
  have HR := hide hr
  obtain ⟨ba, bcp, rfl⟩ : ∃ a c, bv = .slice a 3 c := by
    obtain ⟨a, c, h, _⟩ := hr.shape
    exact ⟨a, c, h⟩
  clear hr hk P0 B3 D2'
  have hcv : (convert 29 29 (.slice (some ⟨w3.heap.size, 0, none⟩) 7 7)).run Tryd.prog (w3.alloc (.cells #[.int .u8 51, .int .u8 13, .int .u8 10, .int .u8 97, .int .u8 98, .int .u8 99, .int .u8 100] 5)) = .ok (.slice (some ⟨w3.heap.size, 0, none⟩) 7 7) (w3.alloc (.cells #[.int .u8 51, .int .u8 13, .int .u8 10, .int .u8 97, .int .u8 98, .int .u8 99, .int .u8 100] 5 (7, 8))) := Lib.run_convert_bytes_const w3 29 5 #[.int .u8 51, .int .u8 13, .int .u8 10, .int .u8 97, .int .u8 98, .int .u8 99, .int .u8 100] 7 7 Tryd.underlying29 Tryd.underlying5
  go_wp2_with fail
  have B5 := hide (B4.out.trans (((Below.refl _ w3).alloc (Nat.le_refl _) (.cells #[.int .u8 51, .int .u8 13, .int .u8 10, .int .u8 97, .int .u8 98, .int .u8 99, .int .u8 100] 5 (7, 8))).mono B4.out.size))
  have BX := hide ((Below.refl _ w3).alloc (Nat.le_refl _) (.cells #[.int .u8 51, .int .u8 13, .int .u8 10, .int .u8 97, .int .u8 98, .int .u8 99, .int .u8 100] 5 (7, 8)))
  have P1 := hide (feed_lit D2.out (by decide) (by omega) sp2 #[.int .u8 51, .int .u8 13, .int .u8 10, .int .u8 97, .int .u8 98, .int .u8 99, .int .u8 100] (7, 8) rfl (by decide) (HM.out.below B5.out))
  have HR' := hide (HR.out.below BX.out)
  have hz4 : (w3.alloc (.cells #[.int .u8 51, .int .u8 13, .int .u8 10, .int .u8 97, .int .u8 98, .int .u8 99, .int .u8 100] 5 (7, 8))).heap.size = w3.heap.size + 1 := by simp
  clear hcv D2 HR BX
  generalize (w3.alloc (.cells #[.int .u8 51, .int .u8 13, .int .u8 10, .int .u8 97, .int .u8 98, .int .u8 99, .int .u8 100] 5 (7, 8))) = y at B5 P1 HR' hz4 ⊢
  rw [said2.1, said2.2.1, said2.2.2] at P1
  refine P1.out.mono ?_
  rintro e w4 ⟨bv2, lv2, tv2, rfl, hr2, hk2⟩
  have hs4 := hk2.size
  have B6 := hide (B5.out.trans (hk2.low (base := w.heap.size) (by omega) (by omega)))
  have HR := hide (HR'.out.frame (W' := w4) fun k h => hk2.block k (by have := (HR'.out.lt h).2; omega) (by have := (HR'.out.lt h).1; omega) (by simp [Value.ownBlock]) (by simp [Value.ownBlock]))
  obtain ⟨ba2, bcp2, rfl, _, _⟩ := hr2.shape
  generalize (bc (dBytes (dNew 9) sp2).snd.snd.fst).length = bn2
  clear hr2 hk2 P1 B5 HR'
  have htx : (convert 29 9 (.slice ba 3 bcp)).run Tryd.prog w4 = .ok (.string ⟨#[97, 98, 99]⟩) w4 := HR.out.text
  have hcv : (convert 29 29 (.slice (some ⟨w4.heap.size, 0, none⟩) 2 2)).run Tryd.prog (w4.alloc (.cells #[.int .u8 97, .int .u8 98] 5)) = .ok (.slice (some ⟨w4.heap.size, 0, none⟩) 2 2) (w4.alloc (.cells #[.int .u8 97, .int .u8 98] 5 (2, 3))) := Lib.run_convert_bytes_const w4 29 5 #[.int .u8 97, .int .u8 98] 2 2 Tryd.underlying29 Tryd.underlying5
  go_wp2_with fail
  have B7 := hide (B6.out.trans (((Below.refl _ w4).alloc (Nat.le_refl _) (.cells #[.int .u8 97, .int .u8 98] 5 (2, 3))).mono B6.out.size))
  have P2 := hide (chunk_any _ sp3 _ (bs_lit w4 sp3 #[.int .u8 97, .int .u8 98] (2, 3) rfl) (.inr ⟨_, _, _, rfl⟩) (by decide) (HDB.out.below B7.out))
  rw [show chunkL sp3 = [50, 13, 10, 97, 98, 13, 10] from said3] at P2
  clear hcv htx HR
  generalize (w4.alloc (.cells #[.int .u8 97, .int .u8 98] 5 (2, 3))) = z at B7 P2 ⊢
  refine P2.out.mono ?_
  rintro e w5 ⟨u, rfl, hu, bb⟩
  have B8 := hide (B7.out.trans (bb.mono B7.out.size))
  obtain ⟨ua, uc, rfl⟩ : ∃ a c, u = .slice a 7 c := by
    obtain ⟨a, c, h, _⟩ := hu.shape
    exact ⟨a, c, h⟩
  have htx : (convert 29 9 (.slice ua 7 uc)).run Tryd.prog w5 = .ok (.string ⟨#[50, 13, 10, 97, 98, 13, 10]⟩) w5 := hu.text
  clear hu bb P2
  go_wp2
  go_ret
  exact ⟨rfl, B8.out⟩
end Go.Proofs.YthciahpadninpaaDoor
