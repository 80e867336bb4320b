/- Chunk. -/
import Derived.Test.YthciahpadninpaaDoorCGrow
import Derived.Test.YthciahpadninpaaDoorFmt
import Derived.Lib.SmallJoins
import Derived.Lib.SlBytesConst
namespace Go.Proofs.YthciahpadninpaaDoor
open Go.ChangeShapes Go.WideShapes Go.ChangeAt Go.RowKit

def chunkL (b : List UInt8) : List UInt8 := if b = [] then [] else hexD b.length ++ ([13, 10] ++ (b ++ [13, 10]))
theorem conv_bs (w : World) (s : ByteArray) : ∃ cap W, (convert 9 29 (.string s)).run Tryd.prog w = .ok (.slice (some ⟨w.heap.size, 0, none⟩) s.size cap) W ∧ Bs W W.heap.size (.slice (some ⟨w.heap.size, 0, none⟩) s.size cap) s.data.toList ∧ Below w.heap.size w W := by
  have hconv := run_bytes_of_string (P := Tryd.prog) w 9 29 5 s Tryd.underlying9 Tryd.underlying29 Tryd.underlying5
  have hge := grownCap_ge w s.size 0 5
  generalize grownCap w s.size 0 5 = cap at hconv hge
  refine ⟨cap, _, hconv, ⟨some ⟨w.heap.size, 0, none⟩, cap, by rw [size_len], by rw [size_len]; exact hge, fun j hj => ?_⟩, ((Below.refl _ w).drew).alloc (Nat.le_refl _) _⟩
  have hb := hp_new w.drew (.cells (bytesRow s cap) 5 ((bytesRow s cap).size, (bytesRow s cap).size + 1))
  refine ⟨w.heap.size, 0, rfl, lt_heap hb, lt_heap hb, ?_⟩
  have hj2 : j < s.data.size := by simpa using hj
  have hc := cell_at (w := w.drew.alloc (.cells (bytesRow s cap) 5 ((bytesRow s cap).size, (bytesRow s cap).size + 1))) (b := w.heap.size) hb (0 + j)
  rw [hc, Nat.zero_add, bytesRow_at s cap j hj2]
  simp
theorem bs_lit (w : World) (l : List UInt8) (c : Array Value) (fr : Nat × Nat) (hc : c.toList = l.map fun x => Value.int .u8 (x.toNat : Int)) : Bs (w.alloc (.cells c 5 fr)) (w.alloc (.cells c 5 fr)).heap.size (.slice (some ⟨w.heap.size, 0, none⟩) l.length l.length) l := by
  refine ⟨some ⟨w.heap.size, 0, none⟩, l.length, rfl, Nat.le_refl _, fun j hj => ?_⟩
  have hb := hp_new w (.cells c 5 fr)
  refine ⟨w.heap.size, 0, rfl, lt_heap hb, lt_heap hb, ?_⟩
  rw [cell_at hb, ← Array.getElem?_toList, hc, Nat.zero_add, List.getElem?_map, List.getElem?_eq_getElem hj]
  rfl
theorem pcs3 {W : World} {a1 a2 a3 : Option Addr} {c1 c2 c3 : Nat} {l1 l2 l3 : List UInt8} {n1 n2 n3 : Nat} (e1 : n1 = l1.length) (e2 : n2 = l2.length) (e3 : n3 = l3.length) {fr : Nat × Nat} (h1 : Bs W W.heap.size (.slice a1 n1 c1) l1) (s1 : Shp (.slice a1 n1 c1)) (h2 : Bs W W.heap.size (.slice a2 n2 c2) l2) (s2 : Shp (.slice a2 n2 c2)) (h3 : Bs W W.heap.size (.slice a3 n3 c3) l3) (s3 : Shp (.slice a3 n3 c3)) (t : TypeId) :
    Pcs (W.alloc (.cells #[.slice a1 n1 c1, .slice a2 n2 c2, .slice a3 n3 c3] t fr)) (.slice (some ⟨W.heap.size, 0, none⟩) 3 3) [l1, l2, l3] := by
  subst e1 e2 e3
  have hb := hp_new W (.cells #[.slice a1 l1.length c1, .slice a2 l2.length c2, .slice a3 l3.length c3] t fr)
  have bl := (Below.refl W.heap.size W).alloc (Nat.le_refl _) (.cells #[.slice a1 l1.length c1, .slice a2 l2.length c2, .slice a3 l3.length c3] t fr)
  have hsz : W.heap.size ≤ (W.alloc (.cells #[.slice a1 l1.length c1, .slice a2 l2.length c2, .slice a3 l3.length c3] t fr)).heap.size := bl.size
  refine ⟨_, 3, rfl, Nat.le_refl _, fun j hj => ?_⟩
  match j, hj with
  | 0, _ => exact ⟨W.heap.size, 0, a1, c1, rfl, lt_heap hb, cell_at hb 0, h1.below hsz bl, s1⟩
  | 1, _ => exact ⟨W.heap.size, 0, a2, c2, rfl, lt_heap hb, cell_at hb 1, h2.below hsz bl, s2⟩
  | 2, _ => exact ⟨W.heap.size, 0, a3, c3, rfl, lt_heap hb, cell_at hb 2, h3.below hsz bl, s3⟩
theorem Row.low {W : World} {base base2 : Nat} {e : TypeId} {v : Value} {xs : List Value} (h : Row W base e v xs) (hb : base2 ≤ base) : Row W base2 e v xs := by
  refine ⟨h.1, ?_⟩
  rcases h.2 with x | ⟨g, cap, cur, rfl, h1, hg, hc, hmx, hs, ht⟩
  · exact .inl x
  · exact .inr ⟨g, cap, cur, rfl, Nat.le_trans hb h1, hg, hc, hmx, hs, ht⟩
set_option maxHeartbeats 4000000 in
set_option maxRecDepth 100000 in
theorem chunk_any (v : Value) (b : List UInt8) (w : World) (hB : Bs w w.heap.size v b) (hS : Shp v) (hl : b.length ≤ 35184372088832) (hdb : DB w) :
    Calls Tryd.prog 18 #[v] w fun e w' => ∃ u, e = .returned u ∧ Row w' w.heap.size 5 u (bc (chunkL b)) ∧ Below w.heap.size w w' := by
  have HB := hide hB
  have HS := hide hS
  have HDB := hide hdb
  obtain ⟨va, vc, rfl, _, _⟩ := hB
  clear hS hdb
  by_cases h0 : b = []
  · subst h0
    go_enter Tryd.func18, Tryd.ntmps18
    go_wp2_with fail
    go_ret
    exact ⟨_, rfl, Row.nil _ _ _, Below.refl _ _⟩
  · have hpos : 0 < b.length := List.length_pos_iff.2 h0
    have t0 : ((b.length : Int) == 0) = false := by rw [beq_eq_false_iff_ne]; omega
    have HX := hide (hext_any (b.length : Int) w HDB.out)
    have hy := hexS_yes (n := b.length) (by omega)
    rw [hy.1, hy.2] at HX
    have h14 := hexD_len14 (n := b.length) (by omega)
    have HCL : Hid (chunkL b = [hexD b.length ++ [13, 10], b, [13, 10]].flatten) := hide (by unfold chunkL; rw [if_neg h0]; simp)
    clear hy h0
    have hsz : (⟨(hexD b.length).toArray⟩ : ByteArray).size ≤ 14 := by
      rw [← size_len]; simpa using h14
    have HTL : Hid (((⟨(hexD b.length).toArray⟩ : ByteArray) ++ ⟨#[13, 10]⟩).data.toList = hexD b.length ++ [13, 10]) := hide (by rw [app_list])
    generalize hexD b.length = hx at HX h14 HCL hsz HTL
    generalize (⟨hx.toArray⟩ : ByteArray) = hs at HX hsz HTL
    go_enter Tryd.func18, Tryd.ntmps18
    go_wp2_with fail
    refine HX.out.mono ?_
    rintro e w1 ⟨rfl, bb⟩
    have B1 := hide bb
    clear bb HX
    go_upto_region 4 with fail
    have e2 : (⟨#[13, 10]⟩ : ByteArray).size = 2 := rfl
    have y1 : (hs ++ (⟨#[13, 10]⟩ : ByteArray)).size ≤ 16 := by rw [app_size]; omega
    obtain ⟨cap, W, hcv, hbs, hbw⟩ := conv_bs w1 (hs ++ (⟨#[13, 10]⟩ : ByteArray))
    have HBS := hide hbs
    have B2 := hide (B1.out.trans (hbw.mono B1.out.size))
    clear hbs hbw
    have hcc := Lib.run_convert_bytes_const (P := Tryd.prog) W 29 5 #[.int .u8 13, .int .u8 10] 2 2 Tryd.underlying29 Tryd.underlying5
    go_wp2_with fail
    have hs2 : hs.size + 2 = (hx ++ [13, 10]).length := by rw [← HTL.out, size_len, app_size]; rfl
    have hb1 := HBS.out
    rw [HTL.out, app_size, show (⟨#[13, 10]⟩ : ByteArray).size = 2 from rfl] at hb1
    have S3 := hide (bs_lit W [13, 10] #[.int .u8 13, .int .u8 10] (2, 3) rfl)
    have BL := hide ((Below.refl W.heap.size W).alloc (Nat.le_refl _) (.cells #[.int .u8 13, .int .u8 10] 5 (2, 3)))
    have hz : (W.alloc (.cells #[.int .u8 13, .int .u8 10] 5 (2, 3))).heap.size = W.heap.size + 1 := by simp
    have P3 := hide (pcs3 (fr := (0, 0)) hs2 rfl rfl (hb1.below BL.out.size BL.out) (.inr ⟨_, _, _, rfl⟩) (HB.out.below (Nat.le_trans B2.out.size BL.out.size) (B2.out.trans (BL.out.mono B2.out.size))) HS.out S3.out (.inr ⟨_, _, _, rfl⟩) 29)
    rw [hz] at P3
    have BM := hide ((Below.refl W.heap.size W).alloc (Nat.le_refl _) (.cells #[.int .u8 13, .int .u8 10] 5 (2, 3)) |>.alloc (by omega) (.cells #[.slice (some ⟨w1.heap.size, 0, none⟩) (hs.size + 2) cap, .slice va b.length vc, .slice (some ⟨W.heap.size, 0, none⟩) 2 2] 29))
    have hlf : [hx ++ [13, 10], b, [13, 10]].flatten.length = hx.length + 2 + (b.length + 2) := by simp; omega
    clear hb1 hz hcc hcv
    refine (concat_any _ _ _ P3.out (by rw [hlf]; omega) (by rw [hlf]; omega) (by simp)).mono ?_
    rintro e w5 ⟨u, rfl, hr, b5⟩
    have B3 := hide (B2.out.trans (BM.out.mono B2.out.size))
    have R5 := hide (hr.low B3.out.size)
    have B5 := hide (B3.out.trans (b5.mono B3.out.size))
    clear hr b5 hlf
    go_wp2_with fail
    go_ret
    exact ⟨_, rfl, by rw [HCL.out]; exact R5.out, B5.out⟩
end Go.Proofs.YthciahpadninpaaDoor
