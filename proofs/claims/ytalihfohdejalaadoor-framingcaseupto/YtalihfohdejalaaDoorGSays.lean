/- speaks: what a program that refuses everything does not meet. -/
import Derived.Test.YtalihfohdejalaaDoorGReq
namespace Go.Proofs.YtalihfohdejalaaDoor
open Go.ChangeShapes Go.WideShapes Go.ChangeAt Go.RowKit

theorem flds_at {x : World} {g : Nat} {A : List (ByteArray × ByteArray)} {c : Array Value} {t : TypeId} {fr : Nat × Nat} (h : x.heap[g]? = some (.cells c t fr)) (hc : c.toList = fcs A) : Flds x (.slice (some ⟨g, 0, none⟩) A.length A.length) A := by
  refine ⟨some ⟨g, 0, none⟩, A.length, rfl, ⟨Nat.le_refl _, fun h => by cases h⟩, fun j hj => ⟨g, 0, rfl, blk_lt h, ?_, ?_⟩⟩
  · rw [cell_at h, ← Array.getElem?_toList, hc, show 0 + j * 2 = 2 * j by omega]
    exact (fcs_at A j hj).1
  · rw [cell_at h, ← Array.getElem?_toList, hc, show 0 + j * 2 + 1 = 2 * j + 1 by omega]
    exact (fcs_at A j hj).2
theorem flds_nil (w : World) : Flds w (.slice none 0 0) [] := ⟨none, 0, rfl, ⟨Nat.le_refl _, fun _ => rfl⟩, fun j hj => by simp at hj⟩
theorem sm_nil : Sm [] := ⟨by simp, fun f hf => by cases hf⟩
def L1 : List (ByteArray × ByteArray) := [(moreN, ⟨#[53, 44, 32, 53]⟩)]
def L2 : List (ByteArray × ByteArray) := [(moreN, ⟨#[53]⟩), (⟨#[84, 114, 97, 110, 115, 102, 101, 114, 45, 69, 110, 99, 111, 100, 105, 110, 103]⟩, chS)]
theorem sm1 : Sm L1 := ⟨by decide, by decide⟩
theorem sm2 : Sm L2 := ⟨by decide, by decide⟩
theorem items1 : itemsS L1 clS = [⟨#[53]⟩, ⟨#[53]⟩] := by
  have h : allS L1 clS = [⟨#[53, 44, 32, 53]⟩] := by decide +kernel
  unfold itemsS itemsV
  rw [h]
  simp only [List.flatMap_cons, List.flatMap_nil, List.append_nil]
  unfold smallS listS
  rw [← refL_list]
  rfl
theorem keep1 : keepB L1 1 = true := by
  have h : allS L1 coS = [] := by decide +kernel
  unfold keepB hasB itemsS
  rw [h]
  rfl
theorem req1 : reqO L1 true 1 = ⟨2, 5, true, 0⟩ := by
  have h1 : toldB L1 teS = false := by decide +kernel
  have h2 : toldB L1 clS = true := by decide +kernel
  have h3 : lenOk (itemsS L1 clS) = true := by rw [items1]; decide +kernel
  have h4 : lenN (itemsS L1 clS) = 5 := by rw [items1]; decide +kernel
  unfold reqO toldO
  rw [h1, h2, h3, h4, keep1]
  rfl
theorem req2 : reqO L2 true 1 = ⟨0, 0, false, 91⟩ := by
  have h1 : toldB L2 teS = true := by decide +kernel
  have h2 : toldB L2 clS = true := by decide +kernel
  unfold reqO toldO
  rw [h1, h2]
  rfl
theorem res3 : resO [] false 1 200 ⟨#[71, 69, 84]⟩ = ⟨4, 0, false, 0⟩ := by
  have h1 : toldB [] teS = false := rfl
  have h2 : toldB [] clS = false := rfl
  unfold resO toldO
  rw [h1, h2, if_neg (by simp), if_neg (by decide +kernel)]
  rfl
theorem keep4 : keepB [] 1 = true := by
  unfold keepB hasB itemsS
  rfl
theorem with_any (w : World) (a : Option Addr) (n c : Nat) :
    Calls Tryd.prog 20 #[.slice a n c] w fun e w' => e = .returned (.agg (hdC true ⟨#[]⟩ ⟨#[]⟩ 1 0 ⟨#[]⟩ (.slice a n c))) ∧ Below w.heap.size w w' := by
  unfold hdC
  go_enter Tryd.func20, Tryd.ntmps20
  go_wp2
  have T0 := hide (Bl.one w #[.bool true, .string ⟨#[]⟩, .string ⟨#[]⟩, .int .i64 1, .int .i64 0, .string ⟨#[]⟩, .slice a n c] 24)
  generalize (w.alloc (.cells #[.bool true, .string ⟨#[]⟩, .string ⟨#[]⟩, .int .i64 1, .int .i64 0, .string ⟨#[]⟩, .slice a n c] 24)) = x at T0 ⊢
  obtain ⟨r0, r1, r2, r3, r4, r5, r6⟩ := T0.out.hd 0 w.heap.size rfl rfl
  exact bodyPost_ret (v := .agg #[.bool true, .string ⟨#[]⟩, .string ⟨#[]⟩, .int .i64 1, .int .i64 0, .string ⟨#[]⟩, .slice a n c]) (by simp [results, Tryd.results20, go_sem, r0, r1, r2, r3, r4, r5, r6]) rfl ⟨rfl, T0.out.b⟩
set_option maxHeartbeats 2000000 in
set_option maxRecDepth 100000 in
theorem speaks_any (w : World) : Calls Tryd.prog 11 #[] w fun e w' => e = .returned (.bool true) ∧ Below w.heap.size w w' := by
  go_enter Tryd.func11, Tryd.ntmps11
  go_wp2_with fail
  have F1 := hide (flds_at (A := L1) (hp_new w (.cells #[.string moreN, .string ⟨#[53, 44, 32, 53]⟩] 39)) rfl)
  have B1 := hide ((Below.refl _ w).alloc (Nat.le_refl _) (.cells #[.string moreN, .string ⟨#[53, 44, 32, 53]⟩] 39))
  change Calls _ _ _ (w.alloc (.cells #[.string moreN, .string ⟨#[53, 44, 32, 53]⟩] 39)) _
  generalize (w.alloc (.cells #[.string moreN, .string ⟨#[53, 44, 32, 53]⟩] 39)) = x at F1 B1 ⊢
  refine (with_any x _ _ _).mono ?_
  rintro e w1 ⟨rfl, bb⟩
  have F1' := hide (F1.out.below bb)
  have B1' := hide (B1.out.trans (bb.mono B1.out.size))
  clear bb F1 B1
  unfold hdC
  go_wp2_with fail
  refine (req_any w1 true ⟨#[]⟩ ⟨#[]⟩ 1 0 ⟨#[]⟩ _ L1 F1'.out sm1).mono ?_
  rintro e w2 ⟨rfl, bb⟩
  rw [req1]
  have B2 := hide (B1'.out.trans (bb.mono B1'.out.size))
  clear bb F1' B1'
  unfold foV frV
  go_wp2_with fail
  have T2 := hide (Bl.two w2 #[.int .i64 2, .int .i64 5, .bool true] 26 #[.string moreN, .string ⟨#[53]⟩, .string ⟨#[84, 114, 97, 110, 115, 102, 101, 114, 45, 69, 110, 99, 111, 100, 105, 110, 103]⟩, .string chS] 39)
  change Calls _ _ _ ((w2.alloc (.cells #[.int .i64 2, .int .i64 5, .bool true] 26)).alloc (.cells #[.string moreN, .string ⟨#[53]⟩, .string ⟨#[84, 114, 97, 110, 115, 102, 101, 114, 45, 69, 110, 99, 111, 100, 105, 110, 103]⟩, .string chS] 39)) _
  generalize ((w2.alloc (.cells #[.int .i64 2, .int .i64 5, .bool true] 26)).alloc (.cells #[.string moreN, .string ⟨#[53]⟩, .string ⟨#[84, 114, 97, 110, 115, 102, 101, 114, 45, 69, 110, 99, 111, 100, 105, 110, 103]⟩, .string chS] 39)) = y at T2 ⊢
  refine (with_any y _ _ _).mono ?_
  rintro e w3 ⟨rfl, bb⟩
  have T3 := hide (T2.out.below bb)
  clear bb T2
  unfold hdC
  go_wp2_with fail
  refine (req_any w3 true ⟨#[]⟩ ⟨#[]⟩ 1 0 ⟨#[]⟩ _ L2 (flds_at (T3.out.hp 1 _ _ rfl) rfl) sm2).mono ?_
  rintro e w4 ⟨rfl, bb⟩
  rw [req2]
  have T4 := hide (T3.out.below bb)
  clear bb T3
  unfold foV frV
  go_wp2_with fail
  have D4 := hide ((Below.refl _ w4).alloc (Nat.le_refl _) (.cells #[.int .i64 0, .int .i64 0, .bool false] 26))
  have T5 := hide (T4.out.below D4.out)
  clear D4 T4
  generalize (w4.alloc (.cells #[.int .i64 0, .int .i64 0, .bool false] 26)) = z at T5 ⊢
  refine (res_any z false ⟨#[]⟩ ⟨#[]⟩ 1 200 ⟨#[]⟩ _ [] _ (flds_nil z) sm_nil).mono ?_
  rintro e w5 ⟨rfl, bb⟩
  rw [res3]
  have T6 := hide (T5.out.below bb)
  clear bb T5
  unfold foV frV
  go_upto_region 4 with fail
  have U0 := hide (Bl.one w5 #[.int .i64 4, .int .i64 0, .bool false] 26)
  have T7 := hide (T6.out.below U0.out.b)
  generalize (w5.alloc (.cells #[.int .i64 4, .int .i64 0, .bool false] 26)) = v at T7 U0 ⊢
  obtain ⟨r0, r1, r2, _, _, _⟩ := T7.out.st 0 w2.heap.size rfl rfl
  obtain ⟨s0, s1, s2, _, _, _⟩ := U0.out.st 0 w5.heap.size rfl rfl
  go_wp2_with fail
  refine (with_any v _ _ _).mono ?_
  rintro e w6 ⟨rfl, bb⟩
  have T8 := hide (T7.out.below bb)
  clear bb T7 r0 r1 r2 s0 s1 s2
  unfold hdC
  go_wp2_with fail
  refine (keep_any w6 true ⟨#[]⟩ ⟨#[]⟩ 1 0 ⟨#[]⟩ _ [] (flds_nil w6) sm_nil).mono ?_
  rintro e w7 ⟨rfl, bb⟩
  rw [keep4]
  have T9 := hide (T8.out.below bb)
  clear bb T8
  go_wp2
  go_ret
  exact ⟨rfl, B2.out.trans (T9.out.b.mono B2.out.size)⟩
end Go.Proofs.YtalihfohdejalaaDoor
