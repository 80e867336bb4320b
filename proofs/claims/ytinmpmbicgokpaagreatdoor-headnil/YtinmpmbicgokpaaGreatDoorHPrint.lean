/- Print: the program's. -/
import Derived.Test.YtinmpmbicgokpaaGreatDoorHSame
namespace Go.Proofs.YtinmpmbicgokpaaGreatDoor
open Go.ChangeShapes Go.WideShapes Go.ChangeAt Go.RowKit

def Hx.hi (x : Hx) : Hi := ⟨x.r, x.me, x.ta, x.mi, x.st, x.re, x.fs⟩
theorem hxV_hi (x : Hx) (l : Value) : hxV x l = hiV x.hi l := rfl
def printB (h : Hi) : Bool := decide ((pParse h.r (textL h)).2.2 = 0) && hiEq (pParse h.r (textL h)).1.hi h
def textS (h : Hi) : ByteArray := ⟨(textL h).toArray⟩
theorem textS_list (h : Hi) : (textS h).data.toList = textL h := by simp [textS]
theorem conv_bs (w : World) (s : ByteArray) : ∃ cap W, (convert 9 22 (.string s)).run Tryz.prog w = .ok (.slice (some ⟨w.heap.size, 0, none⟩) s.size cap) W ∧ Bs W W.heap.size (.slice (some ⟨w.heap.size, 0, none⟩) s.size cap) s.data.toList ∧ Below w.heap.size w W := by
  have hconv := run_bytes_of_string (P := Tryz.prog) w 9 22 5 s Tryz.underlying9 Tryz.underlying22 Tryz.underlying5
  have hge := grownCap_ge w s.size 0 5
  generalize grownCap w s.size 0 5 = cap at hconv hge
  refine ⟨cap, _, hconv, ⟨some ⟨w.heap.size, 0, none⟩, cap, by rw [size_len], by rw [size_len]; exact hge, fun j hj => ?_⟩, ((Below.refl _ w).drew).alloc (Nat.le_refl _) _⟩
  have hb := hp_new w.drew (.cells (bytesRow s cap) 5 ((bytesRow s cap).size, (bytesRow s cap).size + 1))
  refine ⟨w.heap.size, 0, rfl, lt_heap hb, lt_heap hb, ?_⟩
  have hj2 : j < s.data.size := by simpa using hj
  have hc := cell_at (w := w.drew.alloc (.cells (bytesRow s cap) 5 ((bytesRow s cap).size, (bytesRow s cap).size + 1))) (b := w.heap.size) hb (0 + j)
  rw [hc, Nat.zero_add, bytesRow_at s cap j hj2]
  simp
theorem txt_len : ∀ (A : List (ByteArray × ByteArray)) (acc : List UInt8), acc.length ≤ 2200000 → (∀ f ∈ A, f.1.size ≤ 1048576 ∧ f.2.size ≤ 1048576) → (txt acc A).length ≤ 2200000
  | [], acc, h, _ => h
  | f :: r, acc, h, hf => by
    rw [txt]
    split
    · exact h
    · rename_i hh
      refine txt_len r _ ?_ (fun g hg => hf g (List.mem_cons_of_mem _ hg))
      have := hf f (by simp)
      unfold fldL
      simp only [List.length_append, size_len, List.length_cons, List.length_nil]
      omega
theorem textL_len (h : Hi) (hb : Hb h) : (textL h).length ≤ 2200002 := by
  have h1 := firstS_size h hb
  have h2 := txt_len h.fs ((firstS h).data.toList ++ [13, 10]) (by simp only [List.length_append, size_len, List.length_cons, List.length_nil]; omega) hb.fs
  unfold textL
  simp only [List.length_append, List.length_cons, List.length_nil] at h2 ⊢
  omega
set_option maxHeartbeats 4000000 in
theorem print_any (h : Hi) (l : Value) (w : World) (hF : Flds w l h.fs) (hb : Hb h) (ht : PT w) (hm : MX w) (he : ET w) :
    Calls Tryz.prog 18 #[hiV h l] w fun e w' => e = .returned (.tuple #[.string (if printB h then textS h else ⟨#[]⟩), .int .i64 (if printB h then 0 else 4)]) ∧ Below w.heap.size w w' := by
  have HX := hide (fun W (h1 : Flds W l h.fs) (h2 : PT W) => text_any h l W h1 hb h2)
  have hln := textL_len h hb
  have HFL := hide (Nat.le_trans hb.fl (by decide : 1048576 ≤ 1099511627776))
  have F0 := hide hF
  have HT := hide ht
  have HM := hide hm
  have HE := hide he
  have HTL := hide (textS_list h)
  have HSM := hide (fun W X la (h1 : Flds W la X.fs) (h2 : Flds W l h.fs) (h3 : X.fs.length ≤ 1099511627776) => same_any W X h la l h1 h2 h3 HFL.out)
  have HPZ : Hid ((pParse h.r (textL h)).1.fs.length ≤ 1099511627776) := hide (by
    have := ((fit_new h.r 65536 (Nat.le_refl _)).feed (textL h)).fs
    unfold pParse
    split
    · simp [hx0]
    · split
      · simp [hx0]
      · dsimp only [Pz.hx]; omega)
  obtain ⟨pb, hpb⟩ : ∃ b, printB h = b := ⟨_, rfl⟩
  rw [hpb]
  unfold printB at hpb
  have HPB := hide hpb
  change Hid (∀ W, Flds W l h.fs → PT W → Calls Tryz.prog 27 #[hiV h l] W fun e w' => e = .returned (.string (textS h)) ∧ Below W.heap.size W w') at HX
  generalize textL h = TL at HPB HTL hln HPZ
  generalize textS h = TS at HX HTL ⊢
  have HPA := hide (fun W v (h1 : Bs W W.heap.size v TL) h3 h4 => parse_any h.r v TL W h1 (by omega) h3 h4)
  generalize pParse h.r TL = R at HPB HPA HPZ
  obtain ⟨H, rn, er⟩ := R
  obtain ⟨a0, c0, rfl, _, _⟩ := hF
  clear hb ht hm he hpb
  unfold hiV at HX HSM ⊢
  have hHH : ∃ h', h' = h := ⟨h, rfl⟩
  obtain ⟨h', hh⟩ := hHH
  rw [← hh] at HPB HSM
  have HH := hide hh
  clear hh
  obtain ⟨r, me, ta, mi, st, re, A⟩ := h
  dsimp only at *
  have hre : ∃ r', r' = r := ⟨r, rfl⟩
  unfold hxV at HPA
  go_enter Tryz.func18, Tryz.ntmps18
  go_wp2_with fail
  have T0 := hide (Bl.one w #[.bool r, .string me, .string ta, .int .i64 mi, .int .i64 st, .string re, .slice a0 A.length c0] 25)
  generalize (w.alloc (.cells #[.bool r, .string me, .string ta, .int .i64 mi, .int .i64 st, .string re, .slice a0 A.length c0] 25)) = x at T0 ⊢
  refine (HX.out _ (F0.out.below T0.out.b) (HT.out.below T0.out.b)).mono ?_
  rintro e w1 ⟨rfl, bb⟩
  have T1 := hide (T0.out.below bb)
  clear bb T0
  obtain ⟨cap, w2, hconv, hbs, bb⟩ := conv_bs w1 TS
  rw [HTL.out] at hbs
  have HBS := hide hbs
  have T2 := hide (T1.out.below bb)
  clear hbs bb
  have r0 : w1.cell? ⟨w.heap.size, 0, none⟩ = some (.bool r) := T1.out.cell 0 rfl 0
  go_wp2_with fail
  refine (HPA.out _ _ HBS.out (HM.out.below T2.out.b) (HE.out.below T2.out.b)).mono ?_
  rintro e w3 ⟨u, rfl, hu, bb⟩
  have T3 := hide (T2.out.below bb)
  have HU := hide (Flds.of_row hu)
  obtain ⟨ua, ul, uc, rfl⟩ : ∃ a n c, u = .slice a n c := by
    obtain ⟨a, c, h, _⟩ := hu.shape
    exact ⟨a, _, c, h⟩
  clear hu bb hconv r0 T1 T2 HBS HPA
  have HHI := hide (show H.hi = ⟨H.r, H.me, H.ta, H.mi, H.st, H.re, H.fs⟩ from rfl)
  obtain ⟨xr, xme, xta, xmi, xst, xre, XA⟩ := H
  dsimp only at *
  go_upto_region 3 with fail
  have U3 := hide (Bl.one w3 #[.bool xr, .string xme, .string xta, .int .i64 (xmi : Int), .int .i64 (xst : Int), .string xre, .slice ua ul uc] 25)
  have T4 := hide (T3.out.below U3.out.b)
  have HU4 := hide (HU.out.below U3.out.b)
  generalize (w3.alloc (.cells #[.bool xr, .string xme, .string xta, .int .i64 (xmi : Int), .int .i64 (xst : Int), .string xre, .slice ua ul uc] 25)) = y at T4 U3 HU4 ⊢
  clear T3 HU
  by_cases h0 : er = 0
  · subst h0
    obtain ⟨r0, r1, r2, r3, r4, r5, r6⟩ := T4.out.hd 0 w.heap.size rfl rfl
    obtain ⟨s0, s1, s2, s3, s4, s5, s6⟩ := U3.out.hd 0 w3.heap.size rfl rfl
    have HS2 := hide (HSM.out y ⟨xr, xme, xta, xmi, xst, xre, XA⟩ (.slice ua ul uc) HU4.out (by have := F0.out.below T4.out.b; rw [HH.out]; exact this) HPZ.out)
    rw [HH.out] at HS2
    have HPB2 : Hid (hiEq ⟨xr, xme, xta, xmi, xst, xre, XA⟩ ⟨r, me, ta, mi, st, re, A⟩ = pb) := hide (by rw [← HPB.out, HHI.out, HH.out]; simp)
    rw [HPB2.out] at HS2
    clear HPB HSM
    go_wp2_with fail
    refine HS2.out.mono ?_
    rintro e w5 ⟨rfl, bb⟩
    have T5 := hide (T4.out.below bb)
    clear bb
    cases pb with
    | true =>
      go_wp2
      go_ret2
      exact ⟨rfl, T5.out.b⟩
    | false =>
      go_wp2
      go_ret2
      exact ⟨rfl, T5.out.b⟩
  · have t0 : ((er : Int) != 0) = true := bne_iff_ne.2 (by omega)
    have hp : pb = false := by rw [← HPB.out, decide_eq_false h0]; rfl
    subst hp
    clear h0
    go_wp2
    go_ret2
    exact ⟨rfl, T4.out.b⟩
end Go.Proofs.YtinmpmbicgokpaaGreatDoor
