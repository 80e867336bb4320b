/- XR6: XBo XBk XBl XBy XHw XBm XF2 XBp XHo XSt XSb XRe XRa XWr XWp XWw. -/
import Derived.Test.YtcagjipdldlehaaGreatDoorXQC
/- A client's connection behind a whole head, whatever its body. -/
namespace Go.Proofs.YtcagjipdldlehaaGreatDoor
open Go.ChangeShapes Go.WideShapes Go.ChangeAt Go.RowKit
set_option linter.unusedVariables false

set_option maxHeartbeats 2000000 in
set_option maxRecDepth 100000 in
theorem begin_of {w : World} {c : Nat} {hd bd : Int} {bg wt : Bool} {rv bv : Value} {wr : Int} {base g : Nat} {lv fv : Value} {p : Pz} {k n : Int} {b : Bool} (h : ClB w c hd bd (stH c) bg wt (.pointer (some ⟨g, 0, none⟩)) rv bv wr) (hp : Par w base g lv fv p) (hw : p.whole = true) (hz : Sz p) (hf : Fit p) (hq : reqO p.fs p.req (p.minor : Int) = ⟨k, n, b, 0⟩) (hS : Sm p.fs)
    (R : World → World → Option Addr → Int → Prop) (hN : ∀ W, Calls Tryz.prog 63 #[frV k n b, .int .i64 bd] W fun e w' => ∃ r, e = .returned r ∧ ∃ ro er, r = .tuple #[.pointer ro, .int .i64 er] ∧ R W w' ro er ∧ Below W.heap.size W w')
    (Post : World → Prop) (hL : ∀ W y y3 ro er, c < W.heap.size → R W y ro er → CK y y3 c → ClB y3 c hd bd (stB c) bg wt (.pointer (some ⟨g, 0, none⟩)) (.pointer ro) bv wr → Calls Tryz.prog 65 #[.pointer (some ⟨c, 0, none⟩), .int .i64 er] y3 fun e w' => e = .returned (.tuple #[]) ∧ Post w' ∧ CK y3 w' c) :
    Calls Tryz.prog 47 #[.pointer (some ⟨c, 0, none⟩)] w fun e w' => e = .returned (.tuple #[]) ∧ Post w' ∧ CK w w' c := by
  have HH := hide h
  have HD := hide (head_whole hp hw hz hf)
  have HQ := hide (fun W l (hl : Flds W l p.fs) => req_any W p.req p.me p.ta (p.minor : Int) (p.status : Int) p.re l p.fs hl hS)
  rw [hq] at HQ
  unfold hdC foV frVg at HQ
  unfold hdV at HD
  have HN := hide hN
  have HLK := hide hL
  unfold frV at HN
  obtain ⟨-, -, -, -, -, k5, -, -, -⟩ := cl_cells h
  have hcl : c < w.heap.size := lt_heap h
  clear h hp hw hz hf hq hS hN hL
  go_enter Tryz.func47, Tryz.ntmps47
  go_wp2_with (go_at_call 34; refine HD.out.mono ?_; rintro e w1 ⟨l, rfl, hl, bb⟩; have HL := hide (HQ.out w1 l (Flds.of_row hl)); have B1 := hide bb; have hll := hl.shape)
  refine HL.out.mono ?_
  rintro e w2 ⟨rfl, b2⟩
  have B2 := hide (B1.out.trans (b2.mono B1.out.size))
  clear b2 HL B1 HD HQ k5 bb hl hll
  have B3 := hide (B2.out.alloc B2.out.size (.cells #[.int .i64 k, .int .i64 n, .bool b] 83))
  have F3 := hide (hp_new w2 (.cells #[.int .i64 k, .int .i64 n, .bool b] 83))
  go_upto_region 3 with fail
  clear B2
  generalize w2.alloc _ = w3 at *
  generalize w2.heap.size = ff at *
  have H3 := hide ((B3.out.block c hcl).trans HH.out)
  have f0 : w3.cell? ⟨ff, 0, none⟩ = some (.int .i64 k) := cell_at F3.out 0
  have f1 : w3.cell? ⟨ff, 1, none⟩ = some (.int .i64 n) := cell_at F3.out 1
  have f2 : w3.cell? ⟨ff, 2, none⟩ = some (.bool b) := cell_at F3.out 2
  obtain ⟨k0, k1, k2, k3, k4, k5, k6, k7, k8⟩ := cl_cells H3.out
  have hc3 : c < w3.heap.size := lt_heap H3.out
  clear k2 k3 k4 k5 k6 k7 k8
  go_region_law (refine step_callg rfl 63 _ _ rfl (enters_of Tryz.func63 (by kernel_rfl) rfl) #[.agg #[.int .i64 k, .int .i64 n, .bool b], .int .i64 bd] (by simp [Act.eval]) _ (HN.out _) ?_; rintro v y ⟨ro, er, rfl, y1, y4⟩; have HY : Hid (ClB y c hd bd (stH c) bg wt (.pointer (some ⟨g, 0, none⟩)) rv bv wr) := hide ((y4.block c hc3).trans H3.out); have HRD := hide (fun y3 => HLK.out w3.drew y y3 ro er hc3 y1); have HBY : Hid (Below w.heap.size w y) := hide (by first | exact B3.out.trans (y4.mono B3.out.size) | exact B3.out.drew.trans (y4.mono B3.out.size)); have q6 := (cl_cells HY.out).2.2.2.2.2.2.1; have qz := cl_fz HY.out 6; clear y1 y4)
  all_goals
    have H4 : Hid (ClB (y.setCell ⟨c, 6, none⟩ (.pointer ro)) c hd bd (stH c) bg wt (.pointer (some ⟨g, 0, none⟩)) (.pointer ro) bv wr) := hide (hp_set HY.out 6 _)
    have C4 := hide (CK.set y c 6 (.pointer ro))
    have K4 := hide ((CK.of_below c HBY.out).trans C4.out)
    go_upto_region 4 with fail
    clear q6 qz HY HBY f0 f1 f2 k0 k1 H3 F3 B3
    generalize y.setCell ⟨c, 6, none⟩ (.pointer ro) = y2 at *
    have q2 := (cl_cells H4.out).2.2.1
    have qz := cl_fz H4.out 2
    have H5 : Hid (ClB (y2.setCell ⟨c, 2, none⟩ (stB c)) c hd bd (stB c) bg wt (.pointer (some ⟨g, 0, none⟩)) (.pointer ro) bv wr) := hide (hp_set H4.out 2 _)
    have C5 := hide (C4.out.trans (CK.set y2 c 2 (stB c)))
    have K5 := hide (K4.out.trans (CK.set y2 c 2 (stB c)))
    have HL := hide (HRD.out _ C5.out H5.out)
    unfold stH at q2
    clear H5 C4 C5 HRD
    unfold stB at K5 HL
    go_upto_region 5 with fail
    clear q2 qz H4 K4
    generalize y2.setCell ⟨c, 2, none⟩ _ = y3 at *
    go_wp2_with fail
    refine HL.out.mono ?_
    rintro e y4 ⟨rfl, z1, z2⟩
    have HZ := hide z1
    have HZ2 := hide (K5.out.trans z2)
    clear z1 z2 HL K5
    go_wp2_with fail
    go_end0
    exact ⟨rfl, HZ.out, HZ2.out⟩
end Go.Proofs.YtcagjipdldlehaaGreatDoor
/- A client's connection behind a whole head: each kind of body. -/
namespace Go.Proofs.YtcagjipdldlehaaGreatDoor
open Go.ChangeShapes Go.WideShapes Go.ChangeAt Go.RowKit
set_option linter.unusedVariables false

theorem new_long (k len : Int) (x : Bool) (most : Int) (w : World) (h : isR k len = true) (h0 : 0 ≤ most) (hm : most ≤ 9007199254740992) (hl : most < len) : Calls Tryz.prog 63 #[frV k len x, .int .i64 most] w fun e w' => e = .returned (.tuple #[.pointer none, .int .i64 2]) ∧ Below w.heap.size w w' := by
  have HI := hide (fun W => isRight_any k len x W)
  rw [h] at HI
  have t1 : ¬ most < 0 := by omega
  have t2 : ¬ 9007199254740992 < most := by omega
  clear h
  unfold frV at HI ⊢
  go_enter Tryz.func63, Tryz.ntmps63
  have BA := hide ((Below.refl w.heap.size w).alloc (Nat.le_refl _) (.cells #[.int .i64 k, .int .i64 len, .bool x] 83))
  have HB := hide (hp_new w (.cells #[.int .i64 k, .int .i64 len, .bool x] 83))
  have HLT := lt_heap' HB.out
  go_upto_region 1 with fail
  generalize w.alloc (.cells #[.int .i64 k, .int .i64 len, .bool x] 83) = W0 at BA HB HLT ⊢
  have c0 : W0.cell? ⟨w.heap.size, 0, none⟩ = some (.int .i64 k) := cell_at HB.out 0
  have c1 : W0.cell? ⟨w.heap.size, 1, none⟩ = some (.int .i64 len) := cell_at HB.out 1
  have c2 : W0.cell? ⟨w.heap.size, 2, none⟩ = some (.bool x) := cell_at HB.out 2
  go_wp2_with fail
  refine (HI.out W0).mono ?_
  rintro e W1 ⟨rfl, b1⟩
  have B1 := hide (BA.out.trans (b1.mono BA.out.size))
  have HB1 := hide ((b1.block w.heap.size HLT).trans HB.out)
  clear c0 c1 c2 b1 HI
  have c1 : W1.cell? ⟨w.heap.size, 1, none⟩ = some (.int .i64 len) := cell_at HB1.out 1
  go_wp2
  go_ret2
  exact ⟨rfl, B1.out⟩
section
variable {w : World} {c : Nat} {hd bd : Int} {bg wt : Bool} {rv bv : Value} {wr : Int} {base g : Nat} {lv fv : Value} {p : Pz} {n : Int} {b : Bool}
/-- Refused: its framing is wrong. -/
theorem begin_wrong {e : Int} (h : ClB w c hd bd (stH c) bg wt (.pointer (some ⟨g, 0, none⟩)) rv bv wr) (hp : Par w base g lv fv p) (hw : p.whole = true) (hz : Sz p) (hf : Fit p) {k : Int} (hq : reqO p.fs p.req (p.minor : Int) = ⟨k, n, b, e⟩) (he : e ≠ 0) (hS : Sm p.fs) :
    Calls Tryz.prog 47 #[.pointer (some ⟨c, 0, none⟩)] w fun e w' => e = .returned (.tuple #[]) ∧ ClB w' c 0 0 .nilFunc false false (.pointer none) (.pointer none) (.slice none 0 0) 400 ∧ CK w w' c := by
  have HH := hide h
  have HD := hide (head_whole hp hw hz hf)
  have HQ := hide (fun W l (hl : Flds W l p.fs) => req_any W p.req p.me p.ta (p.minor : Int) (p.status : Int) p.re l p.fs hl hS)
  rw [hq] at HQ
  unfold hdC foV frVg at HQ
  unfold hdV at HD
  obtain ⟨-, -, -, -, -, k5, -, -, -⟩ := cl_cells h
  have hcl : c < w.heap.size := lt_heap h
  have e0 : (e == 0) = false := by simpa using he
  clear h hp hw hz hf hq hS
  go_enter Tryz.func47, Tryz.ntmps47
  go_wp2_with (go_at_call 34; refine HD.out.mono ?_; rintro e w1 ⟨l, rfl, hl, bb⟩; have HL := hide (HQ.out w1 l (Flds.of_row hl)); have B1 := hide bb; have hll := hl.shape)
  refine HL.out.mono ?_
  rintro e' w2 ⟨rfl, b2⟩
  have B2 := hide (B1.out.trans (b2.mono B1.out.size))
  clear b2 HL B1 HD HQ k5 bb hl hll
  have B3 := hide (B2.out.alloc B2.out.size (.cells #[.int .i64 k, .int .i64 n, .bool b] 83))
  go_upto_region 1 with fail
  clear B2
  generalize w2.alloc _ = w3 at *
  have H3 := hide ((B3.out.block c hcl).trans HH.out)
  have HF := hide (refuse_any H3.out 400)
  go_wp2_with (go_at_call 28; refine HF.out.mono ?_; rintro e' w4 ⟨rfl, y1, y2⟩; have HY := hide y1; have HY2 := hide ((CK.of_below c B3.out).trans y2); clear y1 y2)
  all_goals first
    | (refine bodyPost_ret (v := .tuple #[]) (by simp [results, Tryz.results47, go_sem]) rfl ⟨rfl, HY.out, HY2.out⟩)
    | (go_end0; exact ⟨rfl, HY.out, HY2.out⟩)
/-- Refused: it is longer than it may be. -/
theorem begin_long (h : ClB w c hd bd (stH c) bg wt (.pointer (some ⟨g, 0, none⟩)) rv bv wr) (hp : Par w base g lv fv p) (hw : p.whole = true) (hz : Sz p) (hf : Fit p) (hq : reqO p.fs p.req (p.minor : Int) = ⟨2, n, b, 0⟩) (hS : Sm p.fs) (h0 : 0 ≤ bd) (hm : bd ≤ 9007199254740992) (hn : n ≤ 9007199254740992) (hl : bd < n) :
    Calls Tryz.prog 47 #[.pointer (some ⟨c, 0, none⟩)] w fun e w' => e = .returned (.tuple #[]) ∧ ClB w' c 0 0 .nilFunc false false (.pointer none) (.pointer none) (.slice none 0 0) 413 ∧ CK w w' c := by
  refine begin_of h hp hw hz hf hq hS (fun W y ro er => ro = none ∧ er = 2) (fun W => ?_) (fun w' => ClB w' c 0 0 .nilFunc false false (.pointer none) (.pointer none) (.slice none 0 0) 413) (fun W y y3 ro er _ r _ hc => ?_)
  · refine (new_long 2 n b bd W (by simp [isR]; omega) h0 hm hl).mono ?_
    rintro e w' ⟨rfl, b1⟩
    exact ⟨_, rfl, _, _, rfl, ⟨rfl, rfl⟩, b1⟩
  · obtain ⟨rfl, rfl⟩ := r
    exact look_wrong hc (by decide)
/-- It has a length: whole at once where that is 0, else read on. -/
theorem begin_len {n : Nat} (h : ClB w c hd bd (stH c) bg wt (.pointer (some ⟨g, 0, none⟩)) rv bv wr) (hp : Par w base g lv fv p) (hw : p.whole = true) (hz : Sz p) (hf : Fit p) (hq : reqO p.fs p.req (p.minor : Int) = ⟨2, (n : Int), b, 0⟩) (hS : Sm p.fs) (h0 : 0 ≤ bd) (hm : bd ≤ 9007199254740992) (hl : (n : Int) ≤ bd) (hn : 0 < n) :
    Calls Tryz.prog 47 #[.pointer (some ⟨c, 0, none⟩)] w fun e w' => e = .returned (.tuple #[]) ∧ (∃ gr g', ClB w' c hd bd (stB c) bg wt (.pointer (some ⟨g, 0, none⟩)) (.pointer (some ⟨gr, 0, none⟩)) bv wr ∧ c < gr ∧ c < g' ∧ Rdr w' (c + 1) gr g' 199 203 ⟨0, false, 0⟩ [.int .i64 (n : Int)]) ∧ CK w w' c := by
  refine begin_of h hp hw hz hf hq hS (fun W y ro er => er = 0 ∧ ∃ gr g', ro = some ⟨gr, 0, none⟩ ∧ W.heap.size ≤ gr ∧ W.heap.size ≤ g' ∧ Rdr y W.heap.size gr g' 199 203 ⟨0, false, 0⟩ [.int .i64 (n : Int)]) (fun W => ?_) (fun w' => ∃ gr g', ClB w' c hd bd (stB c) bg wt (.pointer (some ⟨g, 0, none⟩)) (.pointer (some ⟨gr, 0, none⟩)) bv wr ∧ c < gr ∧ c < g' ∧ Rdr w' (c + 1) gr g' 199 203 ⟨0, false, 0⟩ [.int .i64 (n : Int)]) (fun W y y3 ro er hcW r k3 hc => ?_)
  · have hd0 : decide (n = 0) = false := decide_eq_false (by omega)
    refine (new_of (it := 199) (ct := 203) (t := ⟨0, decide (n = 0), 0⟩) (X := [.int .i64 (n : Int)]) (k := 2) (len := (n : Int)) (x := b) (most := bd) (w := W) (.inl rfl) h0 hm (by simp [isR]; omega) hl (fun V => framed_len n b bd V)).mono ?_
    rintro e w' ⟨gr, g2, rfl, a1, a2, a3, -, a5⟩
    rw [hd0] at a5
    exact ⟨_, rfl, _, _, rfl, ⟨rfl, gr, g2, rfl, a1, a2, a5 rfl⟩, a3⟩
  · obtain ⟨rfl, gr, g', rfl, a1, a2, a3⟩ := r
    have a4 := a3.ck k3 (by omega) (by omega)
    refine (look_part hc a4 (.inl rfl) rfl).mono ?_
    rintro e w' ⟨rfl, rfl⟩
    exact ⟨rfl, ⟨gr, g', hc, by omega, by omega, a4.rd, a4.fr, a4.ne, by omega, by omega⟩, CK.refl _ _⟩
end
end Go.Proofs.YtcagjipdldlehaaGreatDoor
/- A client's connection behind a whole head: a body of length 0, one in chunks. -/
namespace Go.Proofs.YtcagjipdldlehaaGreatDoor
open Go.ChangeShapes Go.WideShapes Go.ChangeAt Go.RowKit
set_option linter.unusedVariables false

theorem Rdr.keep {w w' : World} {base gr g : Nat} {it ct : TypeId} {t : Tal} {X : List Value} (h : Rdr w base gr g it ct t X) (b : ∀ k, base ≤ k → k < w.heap.size → w'.heap[k]? = w.heap[k]?) : Rdr w' base gr g it ct t X :=
  ⟨(b gr h.rb (lt_heap' h.rd)).trans h.rd, (b g h.fb (lt_heap' h.fr)).trans h.fr, h.ne, h.rb, h.fb⟩
theorem PRd.keep {w w' : World} {base gr g gd : Nat} {lv tv : Value} {t : Tal} {d : Dz} (h : PRd w base gr g gd lv tv t d) (b : ∀ k, base ≤ k → k < w.heap.size → w'.heap[k]? = w.heap[k]?) : PRd w' base gr g gd lv tv t d := by
  refine ⟨h.rdr.keep b, ⟨?_, h.pt.dec.frame fun k e => ?_, h.pt.fb, h.pt.gd, h.pt.gl, h.pt.gt⟩, h.rd, h.rl, h.rt⟩
  · exact ⟨(b g h.rdr.fb (lt_heap' h.rdr.fr)).trans h.pt.fr.fr⟩
  · rcases e with rfl | e | e
    · exact b _ h.pt.dec.gb h.pt.dec.lt
    · exact b k (h.pt.dec.line.lt e).1 (h.pt.dec.line.lt e).2
    · exact b k (h.pt.dec.trs.lt e).1 (h.pt.dec.trs.lt e).2
section
variable {w : World} {c : Nat} {hd bd : Int} {bg wt : Bool} {rv bv : Value} {wr : Int} {base g : Nat} {lv fv : Value} {p : Pz} {b : Bool}
theorem begin_len0 (h : ClB w c hd bd (stH c) bg wt (.pointer (some ⟨g, 0, none⟩)) rv bv wr) (hp : Par w base g lv fv p) (hw : p.whole = true) (hz : Sz p) (hf : Fit p) (hq : reqO p.fs p.req (p.minor : Int) = ⟨2, 0, b, 0⟩) (hS : Sm p.fs) (h0 : 0 ≤ bd) (hm : bd ≤ 9007199254740992) :
    Calls Tryz.prog 47 #[.pointer (some ⟨c, 0, none⟩)] w fun e w' => e = .returned (.tuple #[]) ∧ ClB w' c hd bd .nilFunc false true (.pointer (some ⟨g, 0, none⟩)) (.pointer none) bv wr ∧ CK w w' c := by
  refine begin_of h hp hw hz hf hq hS (fun W y ro er => er = 0 ∧ ∃ gr g', ro = some ⟨gr, 0, none⟩ ∧ W.heap.size ≤ gr ∧ W.heap.size ≤ g' ∧ Rdr y W.heap.size gr g' 213 215 ⟨0, true, 0⟩ []) (fun W => ?_) (fun w' => ClB w' c hd bd .nilFunc false true (.pointer (some ⟨g, 0, none⟩)) (.pointer none) bv wr) (fun W y y3 ro er hcW r k3 hc => ?_)
  · refine (new_of (it := 199) (ct := 203) (t := ⟨0, decide (0 = 0), 0⟩) (X := [.int .i64 ((0 : Nat) : Int)]) (k := 2) (len := 0) (x := b) (most := bd) (w := W) (.inl rfl) h0 hm (by decide) h0 (fun V => framed_len 0 b bd V)).mono ?_
    rintro e w' ⟨gr, g2, rfl, a1, a2, a3, a4, -⟩
    obtain ⟨g', b1, b2⟩ := a4 rfl
    exact ⟨_, rfl, _, _, rfl, ⟨rfl, gr, g', rfl, a1, b1, b2⟩, a3⟩
  · obtain ⟨rfl, gr, g', rfl, a1, a2, a3⟩ := r
    exact look_whole hc (a3.ck k3 (by omega) (by omega)) (.inr (.inr (.inr rfl))) rfl
theorem begin_part {bd : Nat} (h : ClB w c hd (bd : Int) (stH c) bg wt (.pointer (some ⟨g, 0, none⟩)) rv bv wr) (hp : Par w base g lv fv p) (hw : p.whole = true) (hz : Sz p) (hf : Fit p) (hq : reqO p.fs p.req (p.minor : Int) = ⟨3, 0, b, 0⟩) (hS : Sm p.fs) (hm : bd ≤ 9007199254740992) :
    Calls Tryz.prog 47 #[.pointer (some ⟨c, 0, none⟩)] w fun e w' => e = .returned (.tuple #[]) ∧ (∃ b2 gr g' gd, ClB w' c hd (bd : Int) (stB c) bg wt (.pointer (some ⟨g, 0, none⟩)) (.pointer (some ⟨gr, 0, none⟩)) bv wr ∧ c < b2 ∧ PRd w' b2 gr g' gd (.slice none 0 0) (.slice none 0 0) ⟨0, false, 0⟩ (dNew bd)) ∧ CK w w' c := by
  refine begin_of h hp hw hz hf hq hS (fun W y ro er => er = 0 ∧ ∃ gr g' gd, ro = some ⟨gr, 0, none⟩ ∧ PRd y W.heap.size gr g' gd (.slice none 0 0) (.slice none 0 0) ⟨0, false, 0⟩ (dNew bd)) (fun W => ?_) (fun w' => ∃ b2 gr g' gd, ClB w' c hd (bd : Int) (stB c) bg wt (.pointer (some ⟨g, 0, none⟩)) (.pointer (some ⟨gr, 0, none⟩)) bv wr ∧ c < b2 ∧ PRd w' b2 gr g' gd (.slice none 0 0) (.slice none 0 0) ⟨0, false, 0⟩ (dNew bd)) (fun W y y3 ro er hcW r k3 hc => ?_)
  · refine (new_part b bd W hm).mono ?_
    rintro e w' ⟨gr, g2, gd, rfl, a1, a2, a3⟩
    exact ⟨_, rfl, _, _, rfl, ⟨rfl, gr, g2, gd, rfl, a2⟩, a3⟩
  · obtain ⟨rfl, gr, g', gd, rfl, a3⟩ := r
    have a4 := a3.keep (w' := y3) (fun k q1 q2 => k3.block k q2 (by omega))
    refine (look_part hc a4.rdr (.inr (.inl rfl)) rfl).mono ?_
    rintro e w' ⟨rfl, rfl⟩
    exact ⟨rfl, ⟨_, gr, g', gd, hc, hcW, a4⟩, CK.refl _ _⟩
end
end Go.Proofs.YtcagjipdldlehaaGreatDoor
/- A client's connection that reads on in a body. -/
namespace Go.Proofs.YtcagjipdldlehaaGreatDoor
open Go.ChangeShapes Go.WideShapes Go.ChangeAt Go.RowKit
set_option linter.unusedVariables false

/-- What a body's feed leaves: the connection as it was, its bytes, those that came. -/
structure Came (w1 : World) (c base : Nat) (hd bd : Int) (bg wt : Bool) (pv bv u : Value) (gr : Nat) (wr : Int) (O l : List UInt8) : Prop where
  cl : ClB w1 c hd bd (stB c) bg wt pv (.pointer (some ⟨gr, 0, none⟩)) bv wr
  row : Row w1 base 5 bv (bc O)
  bs : ∃ nb, Bs w1 nb u l
  shp : Shp u
  low : base ≤ w1.heap.size
  fit : O.length + l.length ≤ 140737488355328
  cb : c < base
set_option maxHeartbeats 2000000 in
set_option maxRecDepth 100000 in
theorem readBody_of {w : World} {c base gr : Nat} {hd bd : Int} {bg wt : Bool} {pv bv : Value} {wr : Int} {O l : List UInt8} {n er : Int} {wh : Bool} (v : Value) (h : ClB w c hd bd (stB c) bg wt pv (.pointer (some ⟨gr, 0, none⟩)) bv wr)
    (R : World → Value → Prop) (hF : Calls Tryz.prog 96 #[.pointer (some ⟨gr, 0, none⟩), v] w fun e w' => ∃ ua un uc, e = .returned (.tuple #[.slice ua un uc, .int .i64 n, .bool wh, .int .i64 er]) ∧ R w' (.slice ua un uc) ∧ Came w' c base hd bd bg wt pv bv (.slice ua un uc) gr wr O l)
    (Post : World → Prop) (hL : ∀ (w1 W1 : World) (u v' : Value), R w1 u → Came w1 c base hd bd bg wt pv bv u gr wr O l → Row W1 base 5 v' (bc (O ++ l)) → Below base w1 W1 → Kept w1 W1 bv v' → ClB (W1.setCell ⟨c, 7, none⟩ v') c hd bd (stB c) bg wt pv (.pointer (some ⟨gr, 0, none⟩)) v' wr →
      Calls Tryz.prog 65 #[.pointer (some ⟨c, 0, none⟩), .int .i64 er] (W1.setCell ⟨c, 7, none⟩ v') fun e w' => e = .returned (.tuple #[]) ∧ Post w') :
    Calls Tryz.prog 64 #[.pointer (some ⟨c, 0, none⟩), v] w fun e w' => e = .returned (.int .i64 n) ∧ Post w' := by
  have HF := hide hF
  have HL := hide hL
  obtain ⟨-, -, -, -, -, -, k6, -, -⟩ := cl_cells h
  clear h hF hL
  go_enter Tryz.func64, Tryz.ntmps64
  go_wp2_with fail
  refine HF.out.mono ?_
  rintro e w1 ⟨ua, un, uc, rfl, r1, cm⟩
  have HR := hide r1
  have HC := hide cm
  clear r1 cm k6 HF
  have k7 := (cl_cells HC.out.cl).2.2.2.2.2.2.2.1
  obtain ⟨ba, bn, bk, rfl⟩ : ∃ a n k, bv = .slice a n k := by obtain ⟨a, k, e, _⟩ := HC.out.row.shape; exact ⟨a, _, k, e⟩
  obtain ⟨nb, hbs⟩ := HC.out.bs
  have HBS := hide hbs
  clear hbs
  go_wp2_with (at_builtin; apply Hid.out)
  unfold Hid
  refine wpList_append_bs_k rfl _ _ rfl w1 base nb (.slice ba bn bk) (.slice ua un uc) O l rfl rfl HC.out.row HBS.out HC.out.shp HC.out.fit HC.out.low ?_
  intro v' W1 a1 a2 a3
  have hcl : c < w1.heap.size := lt_heap HC.out.cl
  have H1 : Hid (ClB W1 c hd bd (stB c) bg wt pv (.pointer (some ⟨gr, 0, none⟩)) (.slice ba bn bk) wr) := hide ((a2.block c HC.out.cb).trans HC.out.cl)
  have H2 : Hid (ClB (W1.setCell ⟨c, 7, none⟩ v') c hd bd (stB c) bg wt pv (.pointer (some ⟨gr, 0, none⟩)) v' wr) := hide (hp_set H1.out 7 _)
  have HLK := hide (HL.out w1 W1 (.slice ua un uc) v' HR.out HC.out a1 a2 a3 H2.out)
  obtain ⟨va, vn, vk, rfl⟩ : ∃ a n k, v' = .slice a n k := by obtain ⟨a, k, e, _⟩ := a1.shape; exact ⟨a, _, k, e⟩
  have q7 := (cl_cells H1.out).2.2.2.2.2.2.2.1
  have qz := cl_fz H1.out 7
  clear a1 a2 a3 HL HR HC k7 H2
  go_upto_region 3 with fail
  clear q7 qz H1
  generalize W1.setCell ⟨c, 7, none⟩ _ = y at *
  go_wp2_with (go_at_call 65; refine HLK.out.mono ?_; rintro e w2 ⟨rfl, z⟩; have HZ := hide z; clear z)
  go_ret
  exact ⟨rfl, HZ.out⟩
end Go.Proofs.YtcagjipdldlehaaGreatDoor
/- A client's connection whose head is wrong; what a head's bytes and fields can tell. -/
namespace Go.Proofs.YtcagjipdldlehaaGreatDoor
open Go.ChangeShapes Go.WideShapes Go.ChangeAt Go.RowKit
set_option linter.unusedVariables false

/-- The status of a head's error. -/
def headSt (e : Nat) : Int := if e = 85 then 431 else 400
set_option maxHeartbeats 1000000 in
set_option maxRecDepth 100000 in
theorem readHead_wrong {w : World} {c : Nat} {hd bd : Int} {st : Value} {bg wt : Bool} {rv bv : Value} {wr : Int} {base g : Nat} {lv fv : Value} {p p' : Pz} {n e : Nat} {wh : Bool} (h : ClB w c hd bd st bg wt (.pointer (some ⟨g, 0, none⟩)) rv bv wr) (hp : Par w base g lv fv p) (hf : Fit p) (hm : MX w) (he : ET w) (hb : 3 ≤ base) (hc : c < base) (v : Value) (l : List UInt8) (hv : Bf w (Ap g lv fv) v l) (hl : l.length ≤ 140737488355328) (hF : pFeed p l = (n, wh, e, p')) (h0 : e ≠ 0) :
    Calls Tryz.prog 37 #[.pointer (some ⟨c, 0, none⟩), v] w fun e' w' => e' = .returned (.int .i64 (n : Int)) ∧ ClB w' c 0 0 .nilFunc false false (.pointer none) (.pointer none) (.slice none 0 0) (headSt e) ∧ Below c w w' := by
  have HF := hide (hfeed_any hp hf hm he hb v l hv hl)
  rw [hF] at HF
  unfold fdV at HF
  dsimp only at HF
  obtain ⟨-, -, -, -, -, k5, -, -, -⟩ := cl_cells h
  have HH := hide h
  have hcl : c < w.heap.size := lt_heap h
  have HC : Hid (∀ w' lv' fv', PKh w w' g lv fv lv' fv' → w'.heap[c]? = w.heap[c]? ∧ Below c w w') := hide (fun w' lv' fv' k => ⟨k.block c hcl (by have := hp.gb; omega) (fun e => by have := (hp.line.lt e).1; omega) (fun e => by have := (hp.flds.lt e).1; omega), k.low hp (by omega) (by omega)⟩)
  clear h hp hf hm he hv hF
  have t0 : ((e : Int) == 0) = false := by simpa using h0
  unfold headSt
  by_cases h85 : e = 85
  · subst h85
    rw [if_pos rfl]
    rw [show ((85 : Nat) : Int) = 85 from rfl] at HF
    go_enter Tryz.func37, Tryz.ntmps37
    go_wp2_with (first | (go_at_call 46; refine HF.out.mono ?_; rintro e w1 ⟨rfl, lv', fv', y1, y2⟩; have HL := hide (HC.out _ _ _ y2).2; have HW := hide (refuse_any ((HC.out _ _ _ y2).1.trans HH.out) 431); have hs1 := y2.size; clear y1 y2) | (go_at_call 28; refine HW.out.mono ?_; rintro e w2 ⟨rfl, z1, z2⟩; have HZ := hide z1; have HZ3 := hide (HL.out.trans (z2.low (Nat.le_refl _) (by omega))); clear z1 z2))
    go_ret
    exact ⟨rfl, HZ.out, HZ3.out⟩
  · rw [if_neg h85]
    have t85 : ((e : Int) == 85) = false := by
      have : ¬ (e : Int) = 85 := by omega
      simpa using this
    have n85 : ¬ (e : Int) = 85 := by omega
    go_enter Tryz.func37, Tryz.ntmps37
    go_wp2_with (first | (go_at_call 46; refine HF.out.mono ?_; rintro e w1 ⟨rfl, lv', fv', y1, y2⟩; have HL := hide (HC.out _ _ _ y2).2; have HW := hide (refuse_any ((HC.out _ _ _ y2).1.trans HH.out) 400); have hs1 := y2.size; clear y1 y2) | (go_at_call 28; refine HW.out.mono ?_; rintro e w2 ⟨rfl, z1, z2⟩; have HZ := hide z1; have HZ3 := hide (HL.out.trans (z2.low (Nat.le_refl _) (by omega))); clear z1 z2))
    go_ret
    exact ⟨rfl, HZ.out, HZ3.out⟩
/-- No more bytes are read than there are, and one at least. -/
theorem by_le : ∀ (l : List UInt8) (p : Pz), (pBytes p l).2.1 ≤ l.length
  | [], p => by simp [pBytes]
  | x :: r, p => by
    unfold pBytes
    have := by_le r (pNext p x).2
    split
    · simp
    · split
      · simp
      · simp only [List.length_cons]; omega
theorem by_pos (x : UInt8) (r : List UInt8) (p : Pz) : 1 ≤ (pBytes p (x :: r)).2.1 := by
  unfold pBytes
  split
  · exact Nat.le_refl _
  · split
    · exact Nat.le_refl _
    · simp only; omega
/-- What a request's fields tell: an error, no body, a length, chunks. -/
theorem reqO_cases (A : List (ByteArray × ByteArray)) (r : Bool) (m : Int) : (reqO A r m).e ≠ 0 ∨ (∃ b, reqO A r m = ⟨1, 0, b, 0⟩) ∨ (∃ (n : Nat) (b : Bool), reqO A r m = ⟨2, (n : Int), b, 0⟩ ∧ n ≤ 9007199254740992) ∨ ∃ b, reqO A r m = ⟨3, 0, b, 0⟩ := by
  unfold reqO
  cases r with
  | false => exact .inl (by rw [if_neg (by simp)]; show (1 : Int) ≠ 0; decide)
  | true =>
    rw [if_pos rfl]
    unfold toldO
    split
    · left; decide
    split
    · left; decide
    split
    · left; decide
    split
    · exact .inr (.inr (.inr ⟨_, rfl⟩))
    split
    · refine .inr (.inr (.inl ⟨_, _, rfl, ?_⟩))
      unfold lenN
      split
      · unfold firstN
        split
        · omega
        · exact num_topH _
      · omega
    · exact .inr (.inl ⟨_, rfl⟩)
end Go.Proofs.YtcagjipdldlehaaGreatDoor
/- A client's connection that reads on in a body of a length. -/
namespace Go.Proofs.YtcagjipdldlehaaGreatDoor
open Go.ChangeShapes Go.WideShapes Go.ChangeAt Go.RowKit
set_option linter.unusedVariables false

theorem Bs.of_row {w : World} {base : Nat} {v : Value} {l : List UInt8} (h : Row w base 5 v (bc l)) : Bs w w.heap.size v l := by
  obtain ⟨a, c, rfl, hc, _⟩ := h.shape
  rw [bc_len] at h hc
  refine ⟨a, c, by rw [bc_len], hc, fun j hj => ?_⟩
  obtain ⟨g, rfl, hcell⟩ := h.cell (j := j) (by rw [bc_len]; exact hj)
  have hg := (h.lt rfl).2
  refine ⟨g, 0, rfl, hg, hg, ?_⟩
  rw [Nat.zero_add, hcell]
  simp [bc, hj]
theorem Shp.of_row {w : World} {base : Nat} {a : Option Addr} {n c : Nat} {xs : List Value} (h : Row w base 5 (.slice a n c) xs) : Shp (.slice a n c) := by
  rcases h.2 with ⟨h1, h0⟩ | ⟨g, cap, cur, h1, -⟩
  · exact .inl h1
  · rw [h1]; exact .inr ⟨_, _, _, rfl⟩
theorem Rdr.same {w w' : World} {base gr g : Nat} {it ct : TypeId} {t : Tal} {X : List Value} (h : Rdr w base gr g it ct t X) (e1 : w'.heap[gr]? = w.heap[gr]?) (e2 : w'.heap[g]? = w.heap[g]?) : Rdr w' base gr g it ct t X := ⟨e1.trans h.rd, e2.trans h.fr, h.ne, h.rb, h.fb⟩
/-- What a body's reading may have changed: the connection's block, the reader's two, the bytes'. -/
structure BFr (w w' : World) (c gr g : Nat) (bv : Value) : Prop where
  os : w'.os = w.os
  tape : w'.tape = w.tape
  output : w'.output = w.output
  size : w.heap.size ≤ w'.heap.size
  block : ∀ k, k < w.heap.size → k ≠ c → k ≠ gr → k ≠ g → bv.ownBlock ≠ some k → w'.heap[k]? = w.heap[k]?
set_option maxHeartbeats 2000000 in
theorem readBody_meas {w : World} {c base b0 gr g L : Nat} {hd bd : Int} {bg wt : Bool} {pv bv : Value} {wr : Int} {O : List UInt8} {t : Tal} (h : ClB w c hd bd (stB c) bg wt pv (.pointer (some ⟨gr, 0, none⟩)) bv wr) (hr : Rdr w base gr g 199 203 t [.int .i64 (L : Int)]) (hrow : Row w b0 5 bv (bc O)) (cb : c < b0) (cr : c ≠ gr) (cg : c ≠ g) (br : ∀ k, bv.ownBlock = some k → k ≠ gr ∧ k ≠ g) (b0w : b0 ≤ w.heap.size) (hb : base ≤ w.heap.size) (v : Value) (b : List UInt8) (hB : Bs w w.heap.size v b) (hS : Shp v) (hL : L ≤ 9007199254740992) (hg : t.got ≤ L) (ht : t.wrong = 0) (hl : b.length ≤ 140737488355328) (hfit : O.length + b.length ≤ 140737488355328) :
    Calls Tryz.prog 64 #[.pointer (some ⟨c, 0, none⟩), v] w fun e w' => e = .returned (.int .i64 ((tkN b L t.got : Nat) : Int)) ∧ ∃ v', Row w' b0 5 v' (bc (O ++ b.take (tkN b L t.got))) ∧ (∀ k, k < w.heap.size → bv.ownBlock ≠ some k → v'.ownBlock ≠ some k) ∧
      (t.got + tkN b L t.got = L → ClB w' c hd bd .nilFunc false true pv (.pointer none) v' wr) ∧ (t.got + tkN b L t.got ≠ L → ClB w' c hd bd (stB c) bg wt pv (.pointer (some ⟨gr, 0, none⟩)) v' wr ∧ Rdr w' base gr g 199 203 ⟨t.got + tkN b L t.got, false, 0⟩ [.int .i64 (L : Int)]) ∧ BFr w w' c gr g bv := by
  have hF := feed_meas hr hb v b hB hS hL hg hl
  rw [ht] at hF
  generalize hk : tkN b L t.got = k at *
  have hcl : c < w.heap.size := lt_heap h
  refine readBody_of (base := b0) (O := O) (l := b.take k) (n := (k : Int)) (er := 0) (wh := decide (t.got + k = L)) v h (fun w1 u => FdP w w1 base gr g 199 203 ⟨t.got + k, decide (t.got + k = L), 0⟩ [.int .i64 (L : Int)]) (hF.mono ?_) _ ?_
  · rintro e w1 ⟨ua, uc, rfl, r1, r2⟩
    refine ⟨ua, k, uc, rfl, r2, ⟨(r2.2.2.block c hcl cr cg).trans h, hrow.frame fun i hi => r2.2.2.block i (hrow.lt hi).2 (br i hi).1 (br i hi).2, ⟨_, Bs.of_row r1⟩, Shp.of_row r1, Nat.le_trans b0w r2.2.2.size, ?_, cb⟩⟩
    have := List.length_take_le k b
    have : (b.take k).length ≤ b.length := by rw [List.length_take]; omega
    omega
  · intro w1 W1 u v' r2 cm a1 a2 a3 hc
    have hv7 : v'.ownBlock ≠ some c := fun e => by have := (a1.lt e).1; omega
    have sameY : ∀ i, i < w1.heap.size → i ≠ c → bv.ownBlock ≠ some i → (W1.setCell ⟨c, 7, none⟩ v').heap[i]? = w1.heap[i]? := fun i h1 h2 h3 => (Below.heap_setCell W1 ⟨c, 7, none⟩ v' i h2).trans (a3.block i h1 h3)
    have rowY : Row (W1.setCell ⟨c, 7, none⟩ v') b0 5 v' (bc (O ++ b.take k)) := a1.frame fun i hi => Below.heap_setCell W1 ⟨c, 7, none⟩ v' i (fun e => hv7 (by rw [hi, e]))
    have frY : BFr w (W1.setCell ⟨c, 7, none⟩ v') c gr g bv := by
      refine ⟨a2.os.trans r2.2.2.os, a2.tape.trans r2.2.2.tape, a2.output.trans r2.2.2.output, Nat.le_trans r2.2.2.size (Nat.le_trans a3.size (by simp)), fun i h1 h2 h3 h4 h5 => ?_⟩
      exact (sameY i (Nat.lt_of_lt_of_le h1 r2.2.2.size) h2 h5).trans (r2.2.2.block i h1 h3 h4)
    have apY : ∀ i, i < w.heap.size → bv.ownBlock ≠ some i → v'.ownBlock ≠ some i := fun i h1 h2 => a3.apart i (Nat.lt_of_lt_of_le h1 r2.2.2.size) h2
    by_cases hd' : t.got + k = L
    · obtain ⟨g2, q1, q2⟩ := r2.1 (by simp [overT, hd'])
      have q3 := q2.same (sameY gr (lt_heap' q2.rd) (fun e => cr e.symm) (fun e => (br gr e).1 rfl)) (sameY g2 (lt_heap' q2.fr) (by omega) (fun e => by have := (hrow.lt e).2; omega))
      refine (look_whole hc q3 (.inr (.inr (.inr rfl))) (by simp [hd'])).mono ?_
      rintro e w' ⟨rfl, z1, z2⟩
      exact ⟨rfl, v', rowY.frame fun i hi => z2.block i (rowY.lt hi).2 (fun e => hv7 (by rw [hi, e])), apY, fun _ => z1, fun x => absurd hd' x, ⟨z2.os.trans frY.os, z2.tape.trans frY.tape, z2.output.trans frY.output, Nat.le_trans frY.size z2.size, fun i h1 h2 h3 h4 h5 => (z2.block i (Nat.lt_of_lt_of_le h1 frY.size) h2).trans (frY.block i h1 h2 h3 h4 h5)⟩⟩
    · have q2 := r2.2.1 (by simp [overT, hd'])
      have q3 := q2.same (sameY gr (lt_heap' q2.rd) (fun e => cr e.symm) (fun e => (br gr e).1 rfl)) (sameY g (lt_heap' q2.fr) (fun e => cg e.symm) (fun e => (br g e).2 rfl))
      have e0 : decide (t.got + k = L) = false := decide_eq_false hd'
      rw [e0] at q3
      refine (look_part hc q3 (.inl rfl) rfl).mono ?_
      rintro e w' ⟨rfl, rfl⟩
      exact ⟨rfl, v', rowY, apY, fun x => absurd x hd', fun _ => ⟨hc, q3⟩, frY⟩
end Go.Proofs.YtcagjipdldlehaaGreatDoor
/- Feed by chunks, with its frame by blocks. -/
namespace Go.Proofs.YtcagjipdldlehaaGreatDoor
open Go.ChangeShapes Go.WideShapes Go.ChangeAt Go.RowKit
set_option linter.unusedVariables false

structure PFr (w w' : World) (gr g gd : Nat) (lv tv lv' tv' : Value) : Prop where
  block : ∀ k, k < w.heap.size → k ≠ gr → k ≠ g → k ≠ gd → lv.ownBlock ≠ some k → tv.ownBlock ≠ some k → w'.heap[k]? = w.heap[k]?
  la : ∀ k, k < w.heap.size → lv.ownBlock ≠ some k → lv'.ownBlock ≠ some k
  fa : ∀ k, k < w.heap.size → tv.ownBlock ≠ some k → tv'.ownBlock ≠ some k
set_option maxHeartbeats 8000000 in
set_option maxRecDepth 100000 in
theorem feed_part2 {w : World} {base gr g gd : Nat} {lv tv : Value} {t : Tal} {d : Dz} (h : PRd w base gr g gd lv tv t d) (hf : FitD d) (hw : d.whole = false) (hwr : d.wrong = 0) (hm : MX w) (hb2 : 3 ≤ base) {A : Nat → Prop} (va : Option Addr) (vc : Nat) (b : List UInt8) (hv : Bf w A (.slice va b.length vc) b) (hs : Shp (.slice va b.length vc)) (gA : ¬ A gd) (lA : ∀ k, lv.ownBlock = some k → ¬ A k) (tA : ∀ k, tv.ownBlock = some k → ¬ A k) (AL : ∀ k, A k → k < w.heap.size) (hl : b.length ≤ 70368744177664) (hg : t.got ≤ 9007199254740992) :
    Calls Tryz.prog 96 #[.pointer (some ⟨gr, 0, none⟩), .slice va b.length vc] w fun e w' => ∃ ua uc lv' tv', e = .returned (.tuple #[.slice ua (dBytes d b).2.2.1.length uc, .int .i64 ((dBytes d b).2.1 : Int), .bool (dBytes d b).2.2.2.whole, .int .i64 ((dBytes d b).1 : Int)]) ∧ Row w' w.heap.size 5 (.slice ua (dBytes d b).2.2.1.length uc) (bc (dBytes d b).2.2.1) ∧ (overT ⟨t.got + (dBytes d b).2.2.1.length, (dBytes d b).2.2.2.whole, (dBytes d b).1⟩ = true → ∃ g', w.heap.size ≤ g' ∧ Rdr w' base gr g' 213 215 ⟨t.got + (dBytes d b).2.2.1.length, (dBytes d b).2.2.2.whole, (dBytes d b).1⟩ []) ∧ (overT ⟨t.got + (dBytes d b).2.2.1.length, (dBytes d b).2.2.2.whole, (dBytes d b).1⟩ = false → PRd w' base gr g gd lv' tv' ⟨t.got + (dBytes d b).2.2.1.length, (dBytes d b).2.2.2.whole, (dBytes d b).1⟩ (dForget { (dBytes d b).2.2.2 with wrong := (dBytes d b).1 })) ∧ Below base w w' ∧ PFr w w' gr g gd lv tv lv' tv' := by
  have HP := hide h
  have HN := hide (isNone_any h.rdr)
  have HRD := hide (read_part h.pt hf hw hwr hm hb2 va vc b hv hs gA lA tA AL hl hg)
  have c0 := h.rdr.c0
  have hgrl := lt_heap' h.rdr.rd
  have hgl := h.pt.fr.lt
  have hgdl := h.pt.dec.lt
  have hbb : base ≤ w.heap.size := by have := h.pt.dec.gb; omega
  clear h hv hs
  generalize dBytes d b = R at HRD ⊢
  obtain ⟨en, n, o, dd⟩ := R
  dsimp only at HRD ⊢
  generalize hd2 : dForget { dd with wrong := en } = d2 at HRD ⊢
  clear hd2
  obtain ⟨tt, htt⟩ : ∃ x : Tal, (⟨t.got + o.length, dd.whole, en⟩ : Tal) = x := ⟨_, rfl⟩
  rw [htt] at HRD ⊢
  have e1 : dd.whole = tt.whole := by rw [← htt]
  have e2 : en = tt.wrong := by rw [← htt]
  rw [e1, e2]
  clear e1 e2 htt
  go_enter Tryz.func96, Tryz.ntmps96
  go_wp2_with fail
  refine HN.out.mono ?_
  rintro e w1 ⟨rfl, rfl⟩
  clear HN
  go_wp2_with fail
  refine HRD.out.mono ?_
  rintro e W1 ⟨ua, uc, lv', tv', rfl, q1, q2, q3⟩
  have HR1 : Hid (Rdr W1 base gr g 207 209 tt (ptX gd)) := hide ⟨(q3.block gr hgrl HP.out.rdr.ne HP.out.rd HP.out.rl HP.out.rt).trans HP.out.rdr.rd, q2.fr.fr, HP.out.rdr.ne, HP.out.rdr.rb, HP.out.rdr.fb⟩
  have hw1 := q3.size
  have R1 := hide q1
  have P1 := hide q2
  have B1 := hide (q3.low HP.out.pt)
  have hrl' : lv'.ownBlock ≠ some gr := q3.la gr hgrl HP.out.rl
  have hrt' : tv'.ownBlock ≠ some gr := q3.fa gr hgrl HP.out.rt
  have Q3 := hide q3
  clear q1 q2 q3 HRD c0
  go_wp2_with fail
  refine (settle_any HR1.out (.inr (.inl rfl)) (by omega)).mono ?_
  rintro e W2 ⟨rfl, hs⟩
  have HS := hide hs
  have R2 : Hid (Row W2 w.heap.size 5 (.slice ua o.length uc) (bc o)) := hide (R1.out.frame fun j e => hs.2.2.1.block j (R1.out.lt e).2 (by have := (R1.out.lt e).1; omega) (by have := (R1.out.lt e).1; omega))
  have B2 := hide (B1.out.trans (hs.2.2.1.low (base := base) HP.out.rdr.rb HP.out.rdr.fb (by omega)))
  have DK2 := hide (P1.out.dec.keepR hs.2.2.1 (fun e => HP.out.rd e.symm) (fun e => P1.out.gd e.symm) hrl' P1.out.gl hrt' P1.out.gt)
  have FPO : Hid (overT tt = true → ∃ g', w.heap.size ≤ g' ∧ Rdr W2 base gr g' 213 215 tt []) := hide (fun h => (by obtain ⟨g', h1, h2⟩ := hs.1 h; exact ⟨g', Nat.le_trans hw1 h1, h2⟩))
  have FPN : Hid (overT tt = false → PRd W2 base gr g gd lv' tv' tt d2) := hide (fun h => ⟨hs.2.1 h, ⟨⟨(hs.2.1 h).fr⟩, DK2.out, P1.out.fb, P1.out.gd, P1.out.gl, P1.out.gt⟩, HP.out.rd, hrl', hrt'⟩)
  have PF2 : Hid (PFr w W2 gr g gd lv tv lv' tv') := hide ⟨fun k hk h1 h2 h3 h4 h5 => (hs.2.2.1.block k (Nat.lt_of_lt_of_le hk hw1) h1 h2).trans (Q3.out.block k hk h2 h3 h4 h5), Q3.out.la, Q3.out.fa⟩
  clear hs R1 HR1 Q3
  cases ho : overT tt with
  | true =>
    obtain ⟨g2, _, hr2⟩ := HS.out.1 ho
    have HT := hide (told_any g2 W2)
    have c := hr2.c0
    have c1 := hr2.t1
    have c2 := hr2.t2
    clear hr2 ho
    go_wp2_with fail
    refine HT.out.mono ?_
    rintro e w3 ⟨rfl, rfl⟩
    go_wp2_with fail
    go_quiet (fail)
    go_wp2
    exact bodyPost_ret (v := .tuple #[.slice ua o.length uc, .int .i64 (n : Int), .bool tt.whole, .int .i64 (tt.wrong : Int)]) (by simp [results, Tryz.results96, go_sem]) rfl ⟨_, _, _, _, rfl, R2.out.below (below_drewN _ _), fun h => (by obtain ⟨g', h1, h2⟩ := FPO.out h; exact ⟨g', h1, h2.below (below_drewN _ _)⟩), fun h => (FPN.out h).below (below_drewN _ _), B2.out.trans ((below_drewN _ _).mono (by have := B2.out.size; omega)), ⟨PF2.out.block, PF2.out.la, PF2.out.fa⟩⟩
  | false =>
    have hr2 := HS.out.2.1 ho
    obtain ⟨g2, hg2⟩ : ∃ x, g = x := ⟨_, rfl⟩
    rw [hg2] at hr2
    have HT := hide (told_any g2 W2)
    have c := hr2.c0
    have c1 := hr2.t1
    have c2 := hr2.t2
    clear hr2 ho hg2
    go_wp2_with fail
    refine HT.out.mono ?_
    rintro e w3 ⟨rfl, rfl⟩
    go_wp2_with fail
    go_quiet (fail)
    go_wp2
    exact bodyPost_ret (v := .tuple #[.slice ua o.length uc, .int .i64 (n : Int), .bool tt.whole, .int .i64 (tt.wrong : Int)]) (by simp [results, Tryz.results96, go_sem]) rfl ⟨_, _, _, _, rfl, R2.out.below (below_drewN _ _), fun h => (by obtain ⟨g', h1, h2⟩ := FPO.out h; exact ⟨g', h1, h2.below (below_drewN _ _)⟩), fun h => (FPN.out h).below (below_drewN _ _), B2.out.trans ((below_drewN _ _).mono (by have := B2.out.size; omega)), ⟨PF2.out.block, PF2.out.la, PF2.out.fa⟩⟩
end Go.Proofs.YtcagjipdldlehaaGreatDoor
/- A client's connection that reads on in a body of chunks. -/
namespace Go.Proofs.YtcagjipdldlehaaGreatDoor
open Go.ChangeShapes Go.WideShapes Go.ChangeAt Go.RowKit
set_option linter.unusedVariables false

/-- The blocks of a reader by chunks. -/
def fiv (gr g gd : Nat) (lv tv : Value) (k : Nat) : Prop := k = gr ∨ k = g ∨ k = gd ∨ lv.ownBlock = some k ∨ tv.ownBlock = some k
structure BF5 (w w' : World) (c : Nat) (F : Nat → Prop) (bv : Value) : Prop where
  os : w'.os = w.os
  tape : w'.tape = w.tape
  output : w'.output = w.output
  size : w.heap.size ≤ w'.heap.size
  block : ∀ k, k < w.heap.size → k ≠ c → ¬ F k → bv.ownBlock ≠ some k → w'.heap[k]? = w.heap[k]?
theorem BF5.ck {w w' w2 : World} {c : Nat} {F : Nat → Prop} {bv : Value} (h : BF5 w w' c F bv) (k : CK w' w2 c) : BF5 w w2 c F bv :=
  ⟨k.os.trans h.os, k.tape.trans h.tape, k.output.trans h.output, Nat.le_trans h.size k.size, fun i h1 h2 h3 h4 => (k.block i (Nat.lt_of_lt_of_le h1 h.size) h2).trans (h.block i h1 h2 h3 h4)⟩
theorem PRd.fiv_lt {w : World} {base gr g gd : Nat} {lv tv : Value} {t : Tal} {d : Dz} (h : PRd w base gr g gd lv tv t d) {k : Nat} (hk : fiv gr g gd lv tv k) : k < w.heap.size := by
  rcases hk with rfl | rfl | rfl | e | e
  · exact lt_heap' h.rdr.rd
  · exact lt_heap' h.rdr.fr
  · exact h.pt.dec.lt
  · exact (h.pt.dec.line.lt e).2
  · exact (h.pt.dec.trs.lt e).2
theorem PRd.same {w w' : World} {base gr g gd : Nat} {lv tv : Value} {t : Tal} {d : Dz} (h : PRd w base gr g gd lv tv t d) (b : ∀ k, fiv gr g gd lv tv k → w'.heap[k]? = w.heap[k]?) : PRd w' base gr g gd lv tv t d := by
  refine ⟨h.rdr.same (b gr (.inl rfl)) (b g (.inr (.inl rfl))), ⟨⟨(b g (.inr (.inl rfl))).trans h.pt.fr.fr⟩, h.pt.dec.frame fun k e => ?_, h.pt.fb, h.pt.gd, h.pt.gl, h.pt.gt⟩, h.rd, h.rl, h.rt⟩
  rcases e with rfl | e | e
  · exact b _ (.inr (.inr (.inl rfl)))
  · exact b k (.inr (.inr (.inr (.inl e))))
  · exact b k (.inr (.inr (.inr (.inr e))))
set_option maxHeartbeats 2000000 in
theorem readBody_part {w : World} {c base b0 gr g gd : Nat} {lv tv : Value} {hd bd : Int} {bg wt : Bool} {pv bv : Value} {wr : Int} {O : List UInt8} {t : Tal} {d : Dz} (h : ClB w c hd bd (stB c) bg wt pv (.pointer (some ⟨gr, 0, none⟩)) bv wr) (hr : PRd w base gr g gd lv tv t d) (hf : FitD d) (hw : d.whole = false) (hwr : d.wrong = 0) (hm : MX w) (hb3 : 3 ≤ base) (hrow : Row w b0 5 bv (bc O)) (cb : c < b0) (apc : ¬ fiv gr g gd lv tv c) (apb : ∀ k, bv.ownBlock = some k → ¬ fiv gr g gd lv tv k) (b0w : b0 ≤ w.heap.size)
    {A : Nat → Prop} (va : Option Addr) (vc : Nat) (b : List UInt8) (hv : Bf w A (.slice va b.length vc) b) (hs : Shp (.slice va b.length vc)) (apA : ∀ k, fiv gr g gd lv tv k → ¬ A k) (AL : ∀ k, A k → k < w.heap.size) (hl : b.length ≤ 70368744177664) (hg : t.got ≤ 9007199254740992) (hfit : O.length + (dBytes d b).2.2.1.length ≤ 140737488355328) :
    Calls Tryz.prog 64 #[.pointer (some ⟨c, 0, none⟩), .slice va b.length vc] w fun e w' => e = .returned (.int .i64 ((dBytes d b).2.1 : Int)) ∧ BF5 w w' c (fiv gr g gd lv tv) bv ∧
      ((dBytes d b).1 ≠ 0 → ClB w' c 0 0 .nilFunc false false (.pointer none) (.pointer none) (.slice none 0 0) (bodyS ((dBytes d b).1 : Int))) ∧
      ((dBytes d b).1 = 0 → ∃ v', Row w' b0 5 v' (bc (O ++ (dBytes d b).2.2.1)) ∧ (∀ k, k < w.heap.size → bv.ownBlock ≠ some k → v'.ownBlock ≠ some k) ∧
        ((dBytes d b).2.2.2.whole = true → ClB w' c hd bd .nilFunc false true pv (.pointer none) v' wr) ∧
        ((dBytes d b).2.2.2.whole = false → ClB w' c hd bd (stB c) bg wt pv (.pointer (some ⟨gr, 0, none⟩)) v' wr ∧ ∃ lv' tv', PRd w' base gr g gd lv' tv' ⟨t.got + (dBytes d b).2.2.1.length, false, 0⟩ (dForget { (dBytes d b).2.2.2 with wrong := 0 }) ∧ (∀ k, k < w.heap.size → ¬ fiv gr g gd lv tv k → ¬ fiv gr g gd lv' tv' k) ∧ (∀ k, v'.ownBlock = some k → ¬ fiv gr g gd lv' tv' k))) := by
  have hF := feed_part2 hr hf hw hwr hm hb3 va vc b hv hs (fun x => apA gd (.inr (.inr (.inl rfl))) x) (fun k e => apA k (.inr (.inr (.inr (.inl e))))) (fun k e => apA k (.inr (.inr (.inr (.inr e))))) AL hl hg
  have hcl : c < w.heap.size := lt_heap h
  have hnot : ∀ {k : Nat}, ¬ fiv gr g gd lv tv k → k ≠ gr ∧ k ≠ g ∧ k ≠ gd ∧ lv.ownBlock ≠ some k ∧ tv.ownBlock ≠ some k := fun {k} n => ⟨fun e => n (.inl e), fun e => n (.inr (.inl e)), fun e => n (.inr (.inr (.inl e))), fun e => n (.inr (.inr (.inr (.inl e)))), fun e => n (.inr (.inr (.inr (.inr e))))⟩
  generalize hD : dBytes d b = D at *
  obtain ⟨er, n, out, d2⟩ := D
  dsimp only at *
  refine readBody_of (base := b0) (O := O) (l := out) (n := (n : Int)) (er := (er : Int)) (wh := d2.whole) (.slice va b.length vc) h
    (fun w1 u => ∃ lv' tv', (overT ⟨t.got + out.length, d2.whole, er⟩ = true → ∃ g', w.heap.size ≤ g' ∧ Rdr w1 base gr g' 213 215 ⟨t.got + out.length, d2.whole, er⟩ []) ∧ (overT ⟨t.got + out.length, d2.whole, er⟩ = false → PRd w1 base gr g gd lv' tv' ⟨t.got + out.length, d2.whole, er⟩ (dForget { d2 with wrong := er })) ∧ Below base w w1 ∧ PFr w w1 gr g gd lv tv lv' tv') (hF.mono ?_) _ ?_
  · rintro e w1 ⟨ua, uc, lv', tv', rfl, r1, r2, r3, r4, r5⟩
    refine ⟨ua, out.length, uc, rfl, ⟨lv', tv', r2, r3, r4, r5⟩, ⟨?_, hrow.frame fun i hi => ?_, ⟨_, Bs.of_row r1⟩, Shp.of_row r1, Nat.le_trans b0w r4.size, hfit, cb⟩⟩
    · obtain ⟨n1, n2, n3, n4, n5⟩ := hnot apc
      exact (r5.block c hcl n1 n2 n3 n4 n5).trans h
    · obtain ⟨n1, n2, n3, n4, n5⟩ := hnot (apb i hi)
      exact r5.block i (hrow.lt hi).2 n1 n2 n3 n4 n5
  · rintro w1 W1 u v' ⟨lv', tv', r2, r3, r4, r5⟩ cm a1 a2 a3 hc
    have hv7 : v'.ownBlock ≠ some c := fun e => by have := (a1.lt e).1; omega
    have sameY : ∀ i, i < w1.heap.size → i ≠ c → bv.ownBlock ≠ some i → (W1.setCell ⟨c, 7, none⟩ v').heap[i]? = w1.heap[i]? := fun i h1 h2 h3 => (Below.heap_setCell W1 ⟨c, 7, none⟩ v' i h2).trans (a3.block i h1 h3)
    have rowY : Row (W1.setCell ⟨c, 7, none⟩ v') b0 5 v' (bc (O ++ out)) := a1.frame fun i hi => Below.heap_setCell W1 ⟨c, 7, none⟩ v' i (fun e => hv7 (by rw [hi, e]))
    have frY : BF5 w (W1.setCell ⟨c, 7, none⟩ v') c (fiv gr g gd lv tv) bv := by
      refine ⟨a2.os.trans r4.os, a2.tape.trans r4.tape, a2.output.trans r4.output, Nat.le_trans r4.size (Nat.le_trans a3.size (by simp)), fun i h1 h2 h3 h4 => ?_⟩
      obtain ⟨n1, n2, n3, n4, n5⟩ := hnot h3
      exact (sameY i (Nat.lt_of_lt_of_le h1 r4.size) h2 h4).trans (r5.block i h1 n1 n2 n3 n4 n5)
    have apY : ∀ i, i < w.heap.size → bv.ownBlock ≠ some i → v'.ownBlock ≠ some i := fun i h1 h2 => a3.apart i (Nat.lt_of_lt_of_le h1 r4.size) h2
    have mv : ∀ k, k < w.heap.size → ¬ fiv gr g gd lv tv k → ¬ fiv gr g gd lv' tv' k := fun k hk hn x => by
      obtain ⟨n1, n2, n3, n4, n5⟩ := hnot hn
      rcases x with e | e | e | e | e
      · exact n1 e
      · exact n2 e
      · exact n3 e
      · exact r5.la k hk n4 e
      · exact r5.fa k hk n5 e
    by_cases h0 : er = 0
    · subst h0
      cases hwh : d2.whole with
      | true =>
        rw [hwh] at r2
        obtain ⟨g2, q1, q2⟩ := r2 rfl
        have q3 := q2.same (sameY gr (lt_heap' q2.rd) (fun e => apc (.inl e.symm)) (fun e => apb gr e (.inl rfl))) (sameY g2 (lt_heap' q2.fr) (by omega) (fun e => by have := (hrow.lt e).2; omega))
        refine (look_whole hc q3 (.inr (.inr (.inr rfl))) rfl).mono ?_
        rintro e w' ⟨rfl, z1, z2⟩
        exact ⟨rfl, frY.ck z2, fun x => absurd rfl x, fun _ => ⟨v', rowY.frame fun i hi => z2.block i (rowY.lt hi).2 (fun e => hv7 (by rw [hi, e])), apY, fun _ => z1, fun x => absurd x (by simp)⟩⟩
      | false =>
        rw [hwh] at r3
        have q2 := r3 rfl
        have hfc : ¬ fiv gr g gd lv' tv' c := mv c hcl apc
        have hfb : ∀ k, bv.ownBlock = some k → ¬ fiv gr g gd lv' tv' k := fun k e => mv k (hrow.lt e).2 (apb k e)
        have q3 := q2.same (w' := W1.setCell ⟨c, 7, none⟩ v') (fun k hk => sameY k (q2.fiv_lt hk) (fun e => hfc (e ▸ hk)) (fun e => hfb k e hk))
        refine (look_part hc q3.rdr (.inr (.inl rfl)) rfl).mono ?_
        rintro e w' ⟨rfl, rfl⟩
        refine ⟨rfl, frY, fun x => absurd rfl x, fun _ => ⟨v', rowY, apY, fun x => absurd x (by simp), fun _ => ⟨hc, lv', tv', q3, mv, fun k e x => ?_⟩⟩⟩
        by_cases hvb : bv.ownBlock = some k
        · exact hfb k hvb x
        · exact a3.apart k (q2.fiv_lt x) hvb e
    · refine (look_wrong hc (by omega)).mono ?_
      rintro e w' ⟨rfl, z1, z2⟩
      exact ⟨rfl, frY.ck z2, fun _ => z1, fun x => absurd x h0⟩
end Go.Proofs.YtcagjipdldlehaaGreatDoor
/- A client's connection that reads the last of a head. -/
namespace Go.Proofs.YtcagjipdldlehaaGreatDoor
open Go.ChangeShapes Go.WideShapes Go.ChangeAt Go.RowKit
set_option linter.unusedVariables false

set_option maxHeartbeats 1000000 in
set_option maxRecDepth 100000 in
theorem readHead_of {w : World} {c : Nat} {hd bd : Int} {bg wt : Bool} {rv bv : Value} {wr : Int} {base g : Nat} {lv fv : Value} {p p' : Pz} {n : Nat} (h : ClB w c hd bd (stH c) bg wt (.pointer (some ⟨g, 0, none⟩)) rv bv wr) (hp : Par w base g lv fv p) (hf : Fit p) (hm : MX w) (he : ET w) (hb : 3 ≤ base) (hc : c < base) (v : Value) (l : List UInt8) (hv : Bf w (Ap g lv fv) v l) (hl : l.length ≤ 140737488355328) (hF : pFeed p l = (n, true, 0, p'))
    (Post : World → Prop) (hB : ∀ (w1 : World) (lv' fv' : Value), Par w1 base g lv' fv' p' → ClB w1 c hd bd (stH c) bg wt (.pointer (some ⟨g, 0, none⟩)) rv bv wr → Calls Tryz.prog 47 #[.pointer (some ⟨c, 0, none⟩)] w1 fun e w' => e = .returned (.tuple #[]) ∧ Post w' ∧ CK w1 w' c) :
    Calls Tryz.prog 37 #[.pointer (some ⟨c, 0, none⟩), v] w fun e w' => e = .returned (.int .i64 (n : Int)) ∧ Post w' ∧ Below c w w' := by
  have HF := hide (hfeed_any hp hf hm he hb v l hv hl)
  rw [hF] at HF
  unfold fdV at HF
  dsimp only at HF
  obtain ⟨-, -, -, -, -, k5, -, -, -⟩ := cl_cells h
  have HH := hide h
  have hcl : c < w.heap.size := lt_heap h
  have HC : Hid (∀ w' lv' fv', PKh w w' g lv fv lv' fv' → w'.heap[c]? = w.heap[c]? ∧ Below c w w') := hide (fun w' lv' fv' k => ⟨k.block c hcl (by have := hp.gb; omega) (fun e => by have := (hp.line.lt e).1; omega) (fun e => by have := (hp.flds.lt e).1; omega), k.low hp (by omega) (by omega)⟩)
  have HB := hide hB
  clear h hp hf hm he hv hF hB
  go_enter Tryz.func37, Tryz.ntmps37
  go_wp2_with (go_at_call 46; refine HF.out.mono ?_; rintro e w1 ⟨rfl, lv', fv', y1, y2⟩; have HY := hide y1; have HX := hide (HB.out w1 lv' fv' y1 ((HC.out _ _ _ y2).1.trans HH.out)); have HL := hide (HC.out _ _ _ y2).2; have hs1 := y2.size; clear y1 y2)
  refine HX.out.mono ?_
  rintro e w2 ⟨rfl, z1, z2⟩
  have HZ := hide z1
  have HZ3 := hide (HL.out.trans (z2.low (Nat.le_refl _) (by omega)))
  clear z1 z2 HX HL HY
  go_wp2_with fail
  go_ret
  exact ⟨rfl, HZ.out, HZ3.out⟩
end Go.Proofs.YtcagjipdldlehaaGreatDoor
/- A client's connection in each of its states; what its state's call makes of it. -/
namespace Go.Proofs.YtcagjipdldlehaaGreatDoor
open Go.ChangeShapes Go.WideShapes Go.ChangeAt Go.RowKit
set_option linter.unusedVariables false

section
variable (w : World) (c : Nat) (hd : Int) (bd : Nat)
/-- It reads a head. -/
def SH : Prop := ∃ base g lv fv p bg, ClB w c hd (bd : Int) (stH c) bg false (.pointer (some ⟨g, 0, none⟩)) (.pointer none) (.slice none 0 0) 0 ∧ Par w base g lv fv p ∧ Fit p ∧ Sz p ∧ p.whole = false ∧ p.wrong = 0 ∧ c < base
/-- It reads a body of a length. -/
def SM : Prop := ∃ base b0 gr g L t bv O pv bg, ClB w c hd (bd : Int) (stB c) bg false pv (.pointer (some ⟨gr, 0, none⟩)) bv 0 ∧ Rdr w base gr g 199 203 t [.int .i64 ((L : Nat) : Int)] ∧ Row w b0 5 bv (bc O) ∧ (c < b0 ∧ c < base ∧ b0 ≤ w.heap.size ∧ base ≤ w.heap.size) ∧ (∀ k, bv.ownBlock = some k → k ≠ gr ∧ k ≠ g) ∧ (t.got < L ∧ L ≤ bd ∧ t.wrong = 0 ∧ O.length ≤ t.got)
/-- It reads a body of chunks. -/
def SP : Prop := ∃ base b0 gr g gd lv tv t d bv O pv bg, ClB w c hd (bd : Int) (stB c) bg false pv (.pointer (some ⟨gr, 0, none⟩)) bv 0 ∧ PRd w base gr g gd lv tv t d ∧ FitD d ∧ (d.whole = false ∧ d.wrong = 0) ∧ Row w b0 5 bv (bc O) ∧ (c < b0 ∧ c < base ∧ b0 ≤ w.heap.size) ∧ (∀ k, bv.ownBlock = some k → ¬ fiv gr g gd lv tv k) ∧ (t.got + (d.left + d.room) ≤ bd ∧ O.length ≤ t.got)
/-- It waits. -/
def SW : Prop := ∃ pv bv, ClB w c hd (bd : Int) .nilFunc false true pv (.pointer none) bv 0
/-- It is shut, since something was wrong. -/
def SS (wr : Int) : Prop := ClB w c 0 0 .nilFunc false false (.pointer none) (.pointer none) (.slice none 0 0) wr
end
def stOk (s : Int) : Prop := s = 400 ∨ s = 413 ∨ s = 431
/-- Any of them. -/
def SA (w : World) (c : Nat) (hd : Int) (bd : Nat) : Prop := SH w c hd bd ∨ SM w c hd bd ∨ SP w c hd bd ∨ SW w c hd bd ∨ ∃ s, SS w c s ∧ stOk s
theorem ok_head (e : Nat) : stOk (headSt e) := by unfold stOk headSt; split <;> simp
theorem ok_body (e : Int) : stOk (bodyS e) := by unfold stOk bodyS; split <;> simp
theorem PRd.base_le {w : World} {base gr g gd : Nat} {lv tv : Value} {t : Tal} {d : Dz} (h : PRd w base gr g gd lv tv t d) {k : Nat} (hk : fiv gr g gd lv tv k) : base ≤ k := by
  rcases hk with rfl | rfl | rfl | e | e
  · exact h.rdr.rb
  · exact h.rdr.fb
  · exact h.pt.dec.gb
  · exact (h.pt.dec.line.lt e).1
  · exact (h.pt.dec.trs.lt e).1
theorem d_le : ∀ (l : List UInt8) (d : Dz), (dBytes d l).2.1 ≤ l.length
  | [], d => by simp [dBytes]
  | x :: r, d => by
    unfold dBytes
    have := d_le r (dNext d x).2.2
    split
    · simp
    · split
      · simp
      · simp only [List.length_cons]; omega
theorem d_pos (x : UInt8) (r : List UInt8) (d : Dz) : 1 ≤ (dBytes d (x :: r)).2.1 := by
  unfold dBytes
  split
  · exact Nat.le_refl _
  · split
    · exact Nat.le_refl _
    · simp only; omega
theorem forget_is (d : Dz) (h : d.whole = false) : dForget { d with wrong := 0 } = { d with wrong := 0 } := by
  unfold dForget overB
  cases d
  simp_all
theorem sm_ofx {p : Pz} (hf : Fit p) (hz : Sz p) : Sm p.fs := ⟨by have := hf.fs; omega, fun f hfm => by have := hz.fs f hfm; omega⟩
theorem feed_parts (p : Pz) (l : List UInt8) (h1 : p.whole = false) (h2 : p.wrong = 0) : (pFeed p l).1 = (pBytes p l).2.1 := by
  unfold pFeed
  rw [if_neg (by simp [h1, h2])]
  split <;> rfl
/-- A head's last bytes: what it is then. -/
theorem head_step {w : World} {c : Nat} {hd : Int} {bd : Nat} (hbd : bd ≤ 1048576) (hS : SH w c hd bd) (hm : MX w) (he : ET w) (h3 : 3 ≤ c) (va : Option Addr) (vc : Nat) (x : UInt8) (r : List UInt8) (hv : Bf w (fun k => k < c) (.slice va (x :: r).length vc) (x :: r)) (hl : (x :: r).length ≤ 70368744177664) :
    Calls Tryz.prog 37 #[.pointer (some ⟨c, 0, none⟩), .slice va (x :: r).length vc] w fun e w' => ∃ k : Nat, e = .returned (.int .i64 (k : Int)) ∧ 1 ≤ k ∧ k ≤ (x :: r).length ∧ SA w' c hd bd ∧ Below c w w' := by
  obtain ⟨base, g, lv, fv, p, bg, hc, hp, hf, hz, hw0, hw1, hcb⟩ := hS
  have hA : Bf w (Ap g lv fv) (.slice va (x :: r).length vc) (x :: r) := by
    obtain ⟨a, n, e, h1, h2⟩ := hv
    refine ⟨a, n, e, h1, fun j hj => ?_⟩
    obtain ⟨b, o, q1, q2, q3⟩ := h2 j hj
    exact ⟨b, o, q1, ⟨by have := hp.gb; omega, fun e => by have := (hp.line.lt e).1; omega, fun e => by have := (hp.flds.lt e).1; omega⟩, q3⟩
  have hn := feed_parts p (x :: r) hw0 hw1
  have hk1 := by_pos x r p
  have hk2 := by_le (x :: r) p
  rw [← hn] at hk1 hk2
  have hf2 := hf.feed (x :: r)
  have hz2 := hz.feed hf (x :: r)
  have hwr := bytes_wrong (x :: r) p hf
  obtain ⟨n, wh, e, p', hF⟩ : ∃ n wh e p', pFeed p (x :: r) = (n, wh, e, p') := ⟨_, _, _, _, rfl⟩
  have hF2 := hF
  unfold pFeed at hF2
  rw [if_neg (by simp [hw0, hw1])] at hF2
  rw [hF] at hf2 hz2 hk1 hk2
  dsimp only at hf2 hz2 hk1 hk2
  by_cases h0 : e = 0
  · subst h0
    cases wh with
    | false =>
      refine (readHead_part hc hp hf hm he (by omega) hcb _ _ hA (by omega) hF).mono ?_
      rintro e w' ⟨rfl, y1, lv', fv', y2, y3⟩
      have hp' : p'.whole = false ∧ p'.wrong = 0 := by
        split at hF2
        · rename_i q
          simp only [Prod.mk.injEq] at hF2
          obtain ⟨-, q1, -, q2⟩ := hF2
          rw [q1] at q2
          simp only [Bool.false_eq_true, if_false] at q2
          rw [← q2]
          exact ⟨q1, hwr.trans hw1⟩
        · rename_i q
          simp only [Prod.mk.injEq] at hF2
          exact absurd hF2.2.2.1 q
      exact ⟨n, rfl, hk1, hk2, .inl ⟨base, g, lv', fv', p', bg, y1, y2, hf2, hz2, hp'.1, hp'.2, hcb⟩, y3.low hp (by omega) (by have := lt_heap hc; omega)⟩
    | true =>
      have hpw : p'.whole = true := by
        split at hF2
        · simp only [Prod.mk.injEq] at hF2
          obtain ⟨-, q1, -, q2⟩ := hF2
          rw [q1] at q2
          simp only [if_true] at q2
          rw [← q2]
          exact q1
        · rename_i q
          simp only [Prod.mk.injEq] at hF2
          exact absurd hF2.2.2.1 q
      have hS := sm_ofx hf2 hz2
      have fin : ∀ (Post : World → Prop), (∀ w', c < w'.heap.size → Post w' → SA w' c hd bd) → (∀ (w1 : World) (lv' fv' : Value), Par w1 base g lv' fv' p' → ClB w1 c hd (bd : Int) (stH c) bg false (.pointer (some ⟨g, 0, none⟩)) (.pointer none) (.slice none 0 0) 0 → Calls Tryz.prog 47 #[.pointer (some ⟨c, 0, none⟩)] w1 fun e w' => e = .returned (.tuple #[]) ∧ Post w' ∧ CK w1 w' c) → Calls Tryz.prog 37 #[.pointer (some ⟨c, 0, none⟩), .slice va (x :: r).length vc] w fun e w' => ∃ k : Nat, e = .returned (.int .i64 (k : Int)) ∧ 1 ≤ k ∧ k ≤ (x :: r).length ∧ SA w' c hd bd ∧ Below c w w' := fun Post q1 q2 => by
        refine (readHead_of hc hp hf hm he (by omega) hcb _ _ hA (by omega) hF Post q2).mono ?_
        rintro e w' ⟨rfl, y1, y2⟩
        exact ⟨n, rfl, hk1, hk2, q1 w' (by have := y2.size; have := lt_heap hc; omega) y1, y2⟩
      rcases reqO_cases p'.fs p'.req (p'.minor : Int) with q | ⟨b, q⟩ | ⟨m, b, q, hm9⟩ | ⟨b, q⟩
      · obtain ⟨k, m, b, e, hq⟩ : ∃ k m b e, reqO p'.fs p'.req (p'.minor : Int) = ⟨k, m, b, e⟩ := ⟨_, _, _, _, rfl⟩
        rw [hq] at q
        exact fin _ (fun w' _ y => .inr (.inr (.inr (.inr ⟨_, y, .inl rfl⟩)))) (fun w1 lv' fv' y1 y2 => begin_wrong y2 y1 hpw hz2 hf2 hq q hS)
      · exact fin _ (fun w' _ y => .inr (.inr (.inr (.inl ⟨_, _, y⟩)))) (fun w1 lv' fv' y1 y2 => begin_none y2 y1 hpw hz2 hf2 q hS (by omega) (by omega))
      · by_cases hlong : (bd : Int) < (m : Int)
        · exact fin _ (fun w' _ y => .inr (.inr (.inr (.inr ⟨_, y, .inr (.inl rfl)⟩)))) (fun w1 lv' fv' y1 y2 => begin_long y2 y1 hpw hz2 hf2 q hS (by omega) (by omega) (by omega) hlong)
        · by_cases hm0 : m = 0
          · subst hm0
            exact fin _ (fun w' _ y => .inr (.inr (.inr (.inl ⟨_, _, y⟩)))) (fun w1 lv' fv' y1 y2 => begin_len0 y2 y1 hpw hz2 hf2 q hS (by omega) (by omega))
          · exact fin _ (fun w' hs y => by
              obtain ⟨gr, g', y1, y2, y3, y4⟩ := y
              exact .inr (.inl ⟨c + 1, c + 1, gr, g', m, _, _, [], _, bg, y1, y4, Row.nil _ _ _, ⟨by omega, by omega, by omega, by omega⟩, fun k e => by simp [Value.ownBlock] at e, ⟨by show 0 < m; omega, by omega, rfl, Nat.zero_le _⟩⟩)) (fun w1 lv' fv' y1 y2 => begin_len y2 y1 hpw hz2 hf2 q hS (by omega) (by omega) (by omega) (by omega))
      · exact fin _ (fun w' hs y => by
          obtain ⟨b2, gr, g', gd, y1, y2, y3⟩ := y
          exact .inr (.inr (.inl ⟨b2, c + 1, gr, g', gd, _, _, _, _, _, [], _, bg, y1, y3, fit_dnew bd (by omega), ⟨rfl, rfl⟩, Row.nil _ _ _, ⟨by omega, y2, by omega⟩, fun k e => by simp [Value.ownBlock] at e, ⟨by show 0 + (0 + bd) ≤ bd; omega, Nat.zero_le _⟩⟩))) (fun w1 lv' fv' y1 y2 => begin_part y2 y1 hpw hz2 hf2 q hS (by omega))
  · refine (readHead_wrong hc hp hf hm he (by omega) hcb _ _ hA (by omega) hF h0).mono ?_
    rintro e' w' ⟨rfl, y1, y2⟩
    exact ⟨n, rfl, hk1, hk2, .inr (.inr (.inr (.inr ⟨_, y1, ok_head e⟩))), y2⟩
end Go.Proofs.YtcagjipdldlehaaGreatDoor
/- A client's connection in each of its states: what a body's bytes make of it. -/
namespace Go.Proofs.YtcagjipdldlehaaGreatDoor
open Go.ChangeShapes Go.WideShapes Go.ChangeAt Go.RowKit
set_option linter.unusedVariables false

theorem Bs.of_bf {w : World} {c : Nat} {v : Value} {l : List UInt8} (h : Bf w (fun k => k < c) v l) : Bs w w.heap.size v l := by
  obtain ⟨a, n, e, h1, h2⟩ := h
  refine ⟨a, n, e, h1, fun j hj => ?_⟩
  obtain ⟨b, o, q1, q2, q3, q4⟩ := h2 j hj
  exact ⟨b, o, q1, q3, q3, q4⟩
theorem meas_step {w : World} {c : Nat} {hd : Int} {bd : Nat} (hbd : bd ≤ 1048576) (hS : SM w c hd bd) (va : Option Addr) (vc : Nat) (x : UInt8) (r : List UInt8) (hv : Bf w (fun k => k < c) (.slice va (x :: r).length vc) (x :: r)) (hs : Shp (.slice va (x :: r).length vc)) (hl : (x :: r).length ≤ 70368744177664) :
    Calls Tryz.prog 64 #[.pointer (some ⟨c, 0, none⟩), .slice va (x :: r).length vc] w fun e w' => ∃ k : Nat, e = .returned (.int .i64 (k : Int)) ∧ 1 ≤ k ∧ k ≤ (x :: r).length ∧ SA w' c hd bd ∧ Below c w w' := by
  obtain ⟨base, b0, gr, g, L, t, bv, O, pv, bg, hc, hr, hrow, ⟨c1, c2, c3, c4⟩, hap, ⟨t1, t2, t3, t4⟩⟩ := hS
  have hb1 := hr.rb
  have hb2 := hr.fb
  refine (readBody_meas hc hr hrow c1 (by omega) (by omega) hap c3 c4 _ (x :: r) (Bs.of_bf hv) hs (by omega) (by omega) t3 (by omega) (by omega)).mono ?_
  rintro e w' ⟨rfl, v', y1, y2, y3, y4, y5⟩
  have hk : tkN (x :: r) L t.got = min (x :: r).length (L - t.got) := rfl
  have hlen : 1 ≤ (x :: r).length := by simp
  have hB : Below c w w' := ⟨y5.os, y5.tape, y5.output, y5.size, fun k hk => y5.block k (by have := lt_heap hc; omega) (by omega) (by omega) (by omega) (fun e => by have := (hrow.lt e).1; omega)⟩
  refine ⟨_, rfl, by omega, by omega, ?_, hB⟩
  by_cases hd' : t.got + tkN (x :: r) L t.got = L
  · exact .inr (.inr (.inr (.inl ⟨_, _, y3 hd'⟩)))
  · obtain ⟨z1, z2⟩ := y4 hd'
    refine .inr (.inl ⟨base, b0, gr, g, L, _, v', _, pv, bg, z1, z2, y1, ⟨c1, c2, Nat.le_trans c3 y5.size, Nat.le_trans c4 y5.size⟩, fun k e => ⟨fun q => ?_, fun q => ?_⟩, ⟨by show t.got + _ < L; omega, t2, rfl, ?_⟩⟩)
    · subst q
      exact y2 k (lt_heap' hr.rd) (fun z => (hap k z).1 rfl) e
    · subst q
      exact y2 k (lt_heap' hr.fr) (fun z => (hap k z).2 rfl) e
    · rw [List.length_append]
      show _ ≤ t.got + _
      have : ((x :: r).take (tkN (x :: r) L t.got)).length ≤ tkN (x :: r) L t.got := by rw [List.length_take]; omega
      omega
theorem part_step {w : World} {c : Nat} {hd : Int} {bd : Nat} (hbd : bd ≤ 1048576) (hS : SP w c hd bd) (hm : MX w) (h3 : 3 ≤ c) (va : Option Addr) (vc : Nat) (x : UInt8) (r : List UInt8) (hv : Bf w (fun k => k < c) (.slice va (x :: r).length vc) (x :: r)) (hs : Shp (.slice va (x :: r).length vc)) (hl : (x :: r).length ≤ 70368744177664) :
    Calls Tryz.prog 64 #[.pointer (some ⟨c, 0, none⟩), .slice va (x :: r).length vc] w fun e w' => ∃ k : Nat, e = .returned (.int .i64 (k : Int)) ∧ 1 ≤ k ∧ k ≤ (x :: r).length ∧ SA w' c hd bd ∧ Below c w w' := by
  obtain ⟨base, b0, gr, g, gd, lv, tv, t, d, bv, O, pv, bg, hc, hr, hf, ⟨hw, hwr⟩, hrow, ⟨c1, c2, c3⟩, hap, ⟨t1, t2⟩⟩ := hS
  have hroom := bytes_room (x :: r) d
  have hcl := lt_heap hc
  refine (readBody_part hc hr hf hw hwr hm (by omega) hrow c1 (fun z => by have := hr.base_le z; omega) hap c3 (A := fun k => k < c) va vc (x :: r) hv hs (fun k z q => by have := hr.base_le z; omega) (fun k q => by omega) hl (by omega) (by omega)).mono ?_
  rintro e w' ⟨rfl, y1, y2, y3⟩
  have hB : Below c w w' := ⟨y1.os, y1.tape, y1.output, y1.size, fun k hk => y1.block k (by omega) (by omega) (fun z => by have := hr.base_le z; omega) (fun e => by have := (hrow.lt e).1; omega)⟩
  refine ⟨_, rfl, d_pos x r d, d_le (x :: r) d, ?_, hB⟩
  by_cases h0 : (dBytes d (x :: r)).1 = 0
  · obtain ⟨v', z1, z2, z3, z4⟩ := y3 h0
    cases hwh : (dBytes d (x :: r)).2.2.2.whole with
    | true => exact .inr (.inr (.inr (.inl ⟨_, _, z3 hwh⟩)))
    | false =>
      obtain ⟨q1, lv', tv', q2, q3, q4⟩ := z4 hwh
      rw [forget_is _ hwh] at q2
      have f2 := fit_dbytes (x :: r) d hf
      refine .inr (.inr (.inl ⟨base, b0, gr, g, gd, lv', tv', _, _, v', _, pv, bg, q1, q2, ⟨f2.fn, f2.room, f2.left, f2.line, f2.tr, f2.bd⟩, ⟨hwh, rfl⟩, z1, ⟨c1, c2, Nat.le_trans c3 y1.size⟩, q4, ⟨?_, ?_⟩⟩))
      · show t.got + (dBytes d (x :: r)).2.2.1.length + ((dBytes d (x :: r)).2.2.2.left + (dBytes d (x :: r)).2.2.2.room) ≤ bd
        omega
      · rw [List.length_append]
        show _ ≤ t.got + _
        omega
  · exact .inr (.inr (.inr (.inr ⟨_, y2 h0, ok_body _⟩)))
end Go.Proofs.YtcagjipdldlehaaGreatDoor
/- A client's connection reads, in whatever state it is. -/
namespace Go.Proofs.YtcagjipdldlehaaGreatDoor
open Go.ChangeShapes Go.WideShapes Go.ChangeAt Go.RowKit
set_option linter.unusedVariables false

/-- It reads: a head, or a body. -/
def SR (w : World) (c : Nat) (hd : Int) (bd : Nat) : Prop := SH w c hd bd ∨ SM w c hd bd ∨ SP w c hd bd
/-- The connection's block where it reads. -/
theorem SR.cl {w : World} {c : Nat} {hd : Int} {bd : Nat} (h : SR w c hd bd) : ∃ f st bg pv rv bv, (f = 37 ∨ f = 64) ∧ st = .func (.func f) #[.pointer (some ⟨c, 0, none⟩)] #[] ∧ ClB w c hd (bd : Int) st bg false pv rv bv 0 := by
  rcases h with ⟨base, g, lv, fv, p, bg, hc, -⟩ | ⟨base, b0, gr, g, L, t, bv, O, pv, bg, hc, -⟩ | ⟨base, b0, gr, g, gd, lv, tv, t, d, bv, O, pv, bg, hc, -⟩
  · exact ⟨_, _, _, _, _, _, .inl rfl, rfl, hc⟩
  · exact ⟨_, _, _, _, _, _, .inr rfl, rfl, hc⟩
  · exact ⟨_, _, _, _, _, _, .inr rfl, rfl, hc⟩
/-- Something of a request was read. -/
theorem SR.begun {w W : World} {c : Nat} {hd : Int} {bd : Nat} (h : SR w c hd bd) (hW : W.heap = (w.setCell ⟨c, 3, none⟩ (.bool true)).heap) : SR W c hd bd := by
  have ck : ∀ k, k < w.heap.size → k ≠ c → W.heap[k]? = w.heap[k]? := fun k hk hkc => by rw [hW]; exact (CK.set w c 3 (.bool true)).block k hk hkc
  have hs : w.heap.size ≤ W.heap.size := by rw [hW]; exact (CK.set w c 3 (.bool true)).size
  rcases h with ⟨base, g, lv, fv, p, bg, hc, hp, q1, q2, q3, q4, hcb⟩ | ⟨base, b0, gr, g, L, t, bv, O, pv, bg, hc, hr, hrow, ⟨c1, c2, c3, c4⟩, hap, q⟩ | ⟨base, b0, gr, g, gd, lv, tv, t, d, bv, O, pv, bg, hc, hr, hf, hw, hrow, ⟨c1, c2, c3⟩, hap, q⟩
  · exact .inl ⟨base, g, lv, fv, p, true, by show W.heap[c]? = _; rw [hW]; exact hp_set hc 3 _, hp.keep fun k a1 a2 => ck k a2 (by omega), q1, q2, q3, q4, hcb⟩
  · exact .inr (.inl ⟨base, b0, gr, g, L, t, bv, O, pv, true, by show W.heap[c]? = _; rw [hW]; exact hp_set hc 3 _, hr.same (ck gr (lt_heap' hr.rd) (by have := hr.rb; omega)) (ck g (lt_heap' hr.fr) (by have := hr.fb; omega)), hrow.frame fun k e => ck k (hrow.lt e).2 (by have := (hrow.lt e).1; omega), ⟨c1, c2, Nat.le_trans c3 hs, Nat.le_trans c4 hs⟩, hap, q⟩)
  · exact .inr (.inr ⟨base, b0, gr, g, gd, lv, tv, t, d, bv, O, pv, true, by show W.heap[c]? = _; rw [hW]; exact hp_set hc 3 _, hr.same (fun k z => ck k (hr.fiv_lt z) (by have := hr.base_le z; omega)), hf, hw, hrow.frame fun k e => ck k (hrow.lt e).2 (by have := (hrow.lt e).1; omega), ⟨c1, c2, Nat.le_trans c3 hs⟩, hap, q⟩)
/-- What its state's call makes of it. -/
theorem SR.step {w : World} {c : Nat} {hd : Int} {bd : Nat} (h : SR w c hd bd) (hbd : bd ≤ 1048576) (hm : MX w) (he : ET w) (h3 : 3 ≤ c) : ∃ f bg pv rv bv, (∀ args W, (callFunc f args).run Tryz.prog W = .ok (.enter f args) W) ∧ (∀ W, (binOp BinOp.neq 62 (.func (.func f) #[.pointer (some ⟨c, 0, none⟩)] #[]) .nilFunc).run Tryz.prog W = .ok (.bool true) W) ∧ ClB w c hd (bd : Int) (.func (.func f) #[.pointer (some ⟨c, 0, none⟩)] #[]) bg false pv rv bv 0 ∧
    ∀ (va : Option Addr) (vc : Nat) (x : UInt8) (r : List UInt8), Bf w (fun k => k < c) (.slice va (x :: r).length vc) (x :: r) → Shp (.slice va (x :: r).length vc) → (x :: r).length ≤ 70368744177664 →
      Calls Tryz.prog f #[.pointer (some ⟨c, 0, none⟩), .slice va (x :: r).length vc] w fun e w' => ∃ k : Nat, e = .returned (.int .i64 (k : Int)) ∧ 1 ≤ k ∧ k ≤ (x :: r).length ∧ SA w' c hd bd ∧ Below c w w' := by
  rcases h with h | h | h
  · have h' := h
    obtain ⟨base, g, lv, fv, p, bg, hc, -⟩ := h'
    exact ⟨37, bg, _, _, _, enters_of Tryz.func37 (by kernel_rfl) rfl, ne_fun _ c, hc, fun va vc x r a1 a2 a3 => head_step hbd h hm he h3 va vc x r a1 a3⟩
  · have h' := h
    obtain ⟨base, b0, gr, g, L, t, bv, O, pv, bg, hc, -⟩ := h'
    exact ⟨64, bg, _, _, _, enters_of Tryz.func64 (by kernel_rfl) rfl, ne_fun _ c, hc, fun va vc x r a1 a2 a3 => meas_step hbd h va vc x r a1 a2 a3⟩
  · have h' := h
    obtain ⟨base, b0, gr, g, gd, lv, tv, t, d, bv, O, pv, bg, hc, -⟩ := h'
    exact ⟨64, bg, _, _, _, enters_of Tryz.func64 (by kernel_rfl) rfl, ne_fun _ c, hc, fun va vc x r a1 a2 a3 => part_step hbd h hm h3 va vc x r a1 a2 a3⟩
end Go.Proofs.YtcagjipdldlehaaGreatDoor
/- A client's connection reads, as far as it goes. -/
namespace Go.Proofs.YtcagjipdldlehaaGreatDoor
open Go.ChangeShapes Go.WideShapes Go.ChangeAt Go.RowKit
set_option linter.unusedVariables false

theorem MX.low {w w' : World} {c : Nat} (h : MX w) (b : Below c w w') (h3 : 3 ≤ c) : MX w' := h.of (b.block _ (by omega)) b.size
theorem ET.low {w w' : World} {c : Nat} (h : ET w) (b : Below c w w') (h3 : 3 ≤ c) : ET w' := h.of (b.block 0 (by omega))
theorem Bf.low {w w' : World} {c : Nat} {v : Value} {l : List UInt8} (h : Bf w (fun k => k < c) v l) (b : Below c w w') : Bf w' (fun k => k < c) v l := h.keep b.size fun k hk _ => b.block k hk
theorem Bf.from {w : World} {A : Nat → Prop} {bk o vc : Nat} {l : List UInt8} (h : Bf w A (.slice (some ⟨bk, o, none⟩) l.length vc) l) (k : Nat) (hk : k ≤ l.length) : Bf w A (.slice (some ⟨bk, o + k, none⟩) (l.drop k).length (vc - k)) (l.drop k) := by
  obtain ⟨a, n, e, h1, h2⟩ := h
  simp only [Value.slice.injEq, true_and] at e
  obtain ⟨rfl, rfl⟩ := e
  refine ⟨_, _, rfl, by rw [List.length_drop]; omega, fun j hj => ?_⟩
  rw [List.length_drop] at hj
  obtain ⟨b, o', q1, q2, q3, q4⟩ := h2 (k + j) (by omega)
  simp only [Option.some.injEq, Addr.mk.injEq, and_true] at q1
  obtain ⟨rfl, rfl⟩ := q1
  exact ⟨bk, o + k, rfl, q2, q3, by rw [Nat.add_assoc]; simpa using q4⟩
/-- It reads no more: it waits, or is shut. -/
def SN (w : World) (c : Nat) (hd : Int) (bd : Nat) (wt : Bool) : Prop := (wt = true ∧ SW w c hd bd) ∨ (wt = false ∧ ∃ s, SS w c s ∧ stOk s)
theorem SA.cases {w : World} {c : Nat} {hd : Int} {bd : Nat} (h : SA w c hd bd) : SR w c hd bd ∨ ∃ wt, SN w c hd bd wt := by
  rcases h with h | h | h | h | h
  · exact .inl (.inl h)
  · exact .inl (.inr (.inl h))
  · exact .inl (.inr (.inr h))
  · exact .inr ⟨true, .inl ⟨rfl, h⟩⟩
  · exact .inr ⟨false, .inr ⟨rfl, h⟩⟩
theorem SN.cl {w : World} {c : Nat} {hd : Int} {bd : Nat} {wt : Bool} (h : SN w c hd bd wt) : w.cell? ⟨c, 2, none⟩ = some .nilFunc ∧ w.cell? ⟨c, 4, none⟩ = some (.bool wt) := by
  rcases h with ⟨rfl, pv, bv, h⟩ | ⟨rfl, s, h, -⟩
  · exact ⟨(cl_cells h).2.2.1, (cl_cells h).2.2.2.2.1⟩
  · exact ⟨(cl_cells h).2.2.1, (cl_cells h).2.2.2.2.1⟩
theorem SN.heap {w w' : World} {c : Nat} {hd : Int} {bd : Nat} {wt : Bool} (h : SN w c hd bd wt) (e : w'.heap = w.heap) : SN w' c hd bd wt := by
  rcases h with ⟨rfl, pv, bv, h⟩ | ⟨rfl, s, h, q⟩
  · exact .inl ⟨rfl, pv, bv, by show w'.heap[c]? = _; rw [e]; exact h⟩
  · exact .inr ⟨rfl, s, by show w'.heap[c]? = _; rw [e]; exact h, q⟩
theorem SR.heap {w w' : World} {c : Nat} {hd : Int} {bd : Nat} (h : SR w c hd bd) (e : w'.heap = w.heap) : SR w' c hd bd := by
  have ck : ∀ k : Nat, w'.heap[k]? = w.heap[k]? := fun k => by rw [e]
  rcases h with ⟨base, g, lv, fv, p, bg, hc, hp, q⟩ | ⟨base, b0, gr, g, L, t, bv, O, pv, bg, hc, hr, hrow, ⟨c1, c2, c3, c4⟩, q⟩ | ⟨base, b0, gr, g, gd, lv, tv, t, d, bv, O, pv, bg, hc, hr, hf, hw, hrow, ⟨c1, c2, c3⟩, q⟩
  · exact .inl ⟨base, g, lv, fv, p, bg, (ck c).trans hc, hp.keep fun k _ _ => ck k, q⟩
  · exact .inr (.inl ⟨base, b0, gr, g, L, t, bv, O, pv, bg, (ck c).trans hc, hr.same (ck gr) (ck g), hrow.frame fun k _ => ck k, ⟨c1, c2, by rw [e]; exact c3, by rw [e]; exact c4⟩, q⟩)
  · exact .inr (.inr ⟨base, b0, gr, g, gd, lv, tv, t, d, bv, O, pv, bg, (ck c).trans hc, hr.same (fun k _ => ck k), hf, hw, hrow.frame fun k _ => ck k, ⟨c1, c2, by rw [e]; exact c3⟩, q⟩)
/-- What Read tells of it, and what it is then. -/
def RdQ (w' : World) (c : Nat) (hd : Int) (bd : Nat) (ok : Bool) : Prop := (SR w' c hd bd ∧ ok = false) ∨ SN w' c hd bd ok
set_option maxHeartbeats 2000000 in
set_option maxRecDepth 100000 in
theorem cread_any {w : World} {c : Nat} {hd : Int} {bd : Nat} (h : SA w c hd bd) (hbd : bd ≤ 1048576) (hm : MX w) (he : ET w) (h3 : 3 ≤ c) (hcw : c ≤ w.heap.size) (bk o vc : Nat) (l : List UInt8) (hv : Bf w (fun k => k < c) (.slice (some ⟨bk, o, none⟩) l.length vc) l) (hvc : l.length ≤ vc) (hl : l.length ≤ 70368744177664) :
    Calls Tryz.prog 11 #[.pointer (some ⟨c, 0, none⟩), .slice (some ⟨bk, o, none⟩) l.length vc] w fun e w' => ∃ (n : Nat) (ok : Bool), e = .returned (.tuple #[.int .i64 (n : Int), .bool ok]) ∧ n ≤ l.length ∧ RdQ w' c hd bd ok ∧ Below c w w' := by
  have HS := hide h
  have HM := hide hm
  have HE := hide he
  have HV := hide hv
  have HBD := hide hbd
  obtain ⟨m, Hm⟩ : ∃ m, Hid (l.length = m) := ⟨_, hide rfl⟩
  rw [Hm.out] at HV hvc hl ⊢
  clear h hm he hv hbd
  have E2 := ne_nil
  go_enter Tryz.func11, Tryz.ntmps11
  go_wp2_with fail
  go_loopw [6] (fun u wr => ∃ k : Nat, k ≤ m ∧ u = .int .i64 (k : Int) ∧ Hid (SA wr c hd bd) ∧ Hid (Below c w wr)) (fun u _ => m - (intOf u).toNat)
  case atStart => exact ⟨0, Nat.zero_le _, rfl, HS, hide (Below.refl _ _)⟩
  case round =>
    clear HS
    obtain ⟨k, hk, rfl, HS, HB⟩ := hrel
    rcases HS.out.cases with hR | ⟨wt, hN⟩
    · obtain ⟨f, st, bg, pv, rv, bv, hf, rfl, hc⟩ := hR.cl
      have E1 := ne_fun f c
      obtain ⟨-, -, k2, k3, k4, -, -, -, -⟩ := cl_cells hc
      have z3 := cl_fz hc 3
      have HR := hide hR
      have hcs : c < wr.heap.size := lt_heap hc
      clear hc hR HS
      by_cases hlt : k < m
      · have hlti : (k : Int) < (m : Int) := by omega
        have hkc : ¬ vc = k := by omega
        have hkc2 : k ≤ vc := by omega
        obtain ⟨x, r, Hxr⟩ : ∃ x r, Hid (l.drop k = x :: r) := by
          cases hd' : l.drop k with
          | nil => have := congrArg List.length hd'; rw [List.length_drop, Hm.out] at this; simp at this; omega
          | cons x r => exact ⟨x, r, hide rfl⟩
        have hxl : (x :: r).length = m - k := by rw [← Hxr.out, List.length_drop, Hm.out]
        have HK1 := hide (CK.set wr c 3 (.bool true))
        obtain ⟨f2, bg2, pv2, rv2, bv2, hen, -, hc2, hst⟩ := (HR.out.begun (W := (wr.setCell ⟨c, 3, none⟩ (.bool true)).drew) rfl).step HBD.out (HM.out.low (HB.out.trans ((HK1.out.low (Nat.le_refl _) (by omega)).drew)) h3) (HE.out.low (HB.out.trans ((HK1.out.low (Nat.le_refl _) (by omega)).drew)) h3) h3
        have HB1 : Hid (Below c w (wr.setCell ⟨c, 3, none⟩ (.bool true)).drew) := hide (HB.out.trans ((HK1.out.low (Nat.le_refl _) (by omega)).drew))
        have HC := hide (hst (some ⟨bk, o + k, none⟩) (vc - k) x r (by
          have q := (HV.out.low HB1.out)
          rw [← Hm.out] at q
          have q2 := q.from k (by rw [Hm.out]; omega)
          rw [Hxr.out] at q2
          exact q2) (.inr ⟨_, _, _, rfl⟩) (by omega))
        rw [hxl] at HC
        have HEN := hide hen
        have k2' : (wr.setCell ⟨c, 3, none⟩ (.bool true)).cell? ⟨c, 2, none⟩ = some (.func (.func f2) #[.pointer (some ⟨c, 0, none⟩)] #[]) := (cl_cells hc2).2.2.1
        have HC2 : Hid (Calls Tryz.prog f2 #[.pointer (some ⟨c, 0, none⟩), .slice (some ⟨bk, o + k, none⟩) (m - k) (vc - k)] (wr.setCell ⟨c, 3, none⟩ (.bool true)).drew fun e w' => ∃ r, e = .returned r ∧ ∃ j : Nat, r = .int .i64 (j : Int) ∧ 1 ≤ j ∧ j ≤ m - k ∧ SA w' c hd bd ∧ Below c (wr.setCell ⟨c, 3, none⟩ (.bool true)).drew w') := hide (HC.out.mono (fun e w' ⟨j, a1, a2, a3, a4, a5⟩ => ⟨_, a1, j, rfl, a2, a3, a4, a5⟩))
        clear hen hc2 hst HC HR HK1
        go_upto_region 6 with fail
        clear k2 k3 k4 z3
        generalize wr.setCell ⟨c, 3, none⟩ (.bool true) = w1 at *
        go_region_law (refine step_callv rfl _ _ _ rfl f2 (.pointer (some ⟨c, 0, none⟩)) (by simp [Act.eval]) HEN.out (.slice (some ⟨bk, o + k, none⟩) (m - k) (vc - k)) (by simp [Act.eval]) _ HC2.out ?_; rintro v y ⟨j, rfl, y1, y2, y3, y4⟩; have HY := hide y3; have HBY := hide (HB1.out.trans y4); clear y3 y4)
        all_goals
          have hji : (k : Int) + (j : Int) ≤ 70368744177664 := by omega
          go_wp2_with fail
          have hwr : IntKind.i64.wrap ((k : Int) + (j : Int)) = ((k + j : Nat) : Int) := (IntWalk.i64_in _ ⟨by omega, by omega⟩).trans (by omega)
          simp only [List.getElem_toArray, List.getElem_cons_zero, List.getElem_cons_succ, Act.put, List.setIfInBounds_toArray, List.set_cons_zero, List.set_cons_succ, hwr]
          go_roundw
          case rel => exact ⟨k + j, by omega, rfl, HY, HBY⟩
          case measure => simp [intOf]; omega
      · have hlti : ¬ (k : Int) < (m : Int) := by omega
        go_wp2_with fail
        go_quiet (fail)
        have HZ := hide (HB.out.trans (⟨rfl, rfl, rfl, Nat.le_refl _, fun _ _ => rfl⟩ : Below c wr (wr.drewN nq)))
        have HRZ := hide (HR.out.heap (w' := wr.drewN nq) rfl)
        go_wp2_with fail
        go_ret2
        exact ⟨k, false, rfl, hk, .inl ⟨HRZ.out, rfl⟩, HZ.out⟩
    · obtain ⟨k2, k4⟩ := hN.cl
      have HN := hide hN
      clear hN HS
      by_cases hlt : k < m
      · have hlti : (k : Int) < (m : Int) := by omega
        go_wp2_with fail
        go_quiet (fail)
        have HZ := hide (HB.out.trans (⟨rfl, rfl, rfl, Nat.le_refl _, fun _ _ => rfl⟩ : Below c wr (wr.drewN nq)))
        have HRZ := hide (HN.out.heap (w' := wr.drewN nq) rfl)
        go_wp2_with fail
        go_ret2
        exact ⟨k, wt, rfl, hk, .inr HRZ.out, HZ.out⟩
      · have hlti : ¬ (k : Int) < (m : Int) := by omega
        go_wp2_with fail
        go_quiet (fail)
        have HZ := hide (HB.out.trans (⟨rfl, rfl, rfl, Nat.le_refl _, fun _ _ => rfl⟩ : Below c wr (wr.drewN nq)))
        have HRZ := hide (HN.out.heap (w' := wr.drewN nq) rfl)
        go_wp2_with fail
        go_ret2
        exact ⟨k, wt, rfl, hk, .inr HRZ.out, HZ.out⟩
end Go.Proofs.YtcagjipdldlehaaGreatDoor
/- A client's connection that is shut reads nothing; of no bytes nothing is read. -/
namespace Go.Proofs.YtcagjipdldlehaaGreatDoor
open Go.ChangeShapes Go.WideShapes Go.ChangeAt Go.RowKit
set_option linter.unusedVariables false

set_option maxHeartbeats 2000000 in
set_option maxRecDepth 100000 in
theorem cread_shut {w : World} {c : Nat} {s : Int} (h : SS w c s) (a : Option Addr) (m vc : Nat) (hl : m ≤ 70368744177664) :
    Calls Tryz.prog 11 #[.pointer (some ⟨c, 0, none⟩), .slice a m vc] w fun e w' => e = .returned (.tuple #[.int .i64 0, .bool false]) ∧ SS w' c s ∧ Below c w w' := by
  have E2 := ne_nil
  have k2 : w.cell? ⟨c, 2, none⟩ = some .nilFunc := (cl_cells h).2.2.1
  have k4 : w.cell? ⟨c, 4, none⟩ = some (.bool false) := (cl_cells h).2.2.2.2.1
  have HS := hide h
  clear h
  go_enter Tryz.func11, Tryz.ntmps11
  go_wp2_with fail
  refine wp_loop_rounds 1 ?_
  rw [rounds_succ]
  by_cases hlt : (0 : Int) < (m : Int)
  · go_wp2_with fail
    go_quiet (fail)
    have HZ := hide (⟨rfl, rfl, rfl, Nat.le_refl _, fun _ _ => rfl⟩ : Below c w (w.drewN nq))
    go_wp2_with fail
    go_ret2
    exact ⟨rfl, HS.out, HZ.out⟩
  · go_wp2_with fail
    go_quiet (fail)
    have HZ := hide (⟨rfl, rfl, rfl, Nat.le_refl _, fun _ _ => rfl⟩ : Below c w (w.drewN nq))
    go_wp2_with fail
    go_ret2
    exact ⟨rfl, HS.out, HZ.out⟩
set_option maxHeartbeats 2000000 in
set_option maxRecDepth 100000 in
theorem cread_zero {w : World} {c : Nat} {hd : Int} {bd : Nat} (h : SA w c hd bd) (a : Option Addr) (vc : Nat) :
    Calls Tryz.prog 11 #[.pointer (some ⟨c, 0, none⟩), .slice a 0 vc] w fun e w' => ∃ (n : Nat) (ok : Bool), e = .returned (.tuple #[.int .i64 (n : Int), .bool ok]) ∧ n ≤ 0 ∧ RdQ w' c hd bd ok ∧ Below c w w' := by
  have E2 := ne_nil
  rcases h.cases with hR | ⟨wt, hN⟩
  · obtain ⟨f, st, bg, pv, rv, bv, hf, rfl, hc⟩ := hR.cl
    have E1 := ne_fun f c
    obtain ⟨-, -, k2, k3, k4, -, -, -, -⟩ := cl_cells hc
    have HR := hide hR
    clear hc hR h
    go_enter Tryz.func11, Tryz.ntmps11
    go_wp2_with fail
    refine wp_loop_rounds 1 ?_
    rw [rounds_succ]
    go_wp2_with fail
    go_quiet (fail)
    have HZ := hide (⟨rfl, rfl, rfl, Nat.le_refl _, fun _ _ => rfl⟩ : Below c w (w.drewN nq))
    have HRZ := hide (HR.out.heap (w' := w.drewN nq) rfl)
    go_wp2_with fail
    go_ret2
    exact ⟨0, false, rfl, Nat.le_refl _, .inl ⟨HRZ.out, rfl⟩, HZ.out⟩
  · obtain ⟨k2, k4⟩ := hN.cl
    have HN := hide hN
    clear hN h
    go_enter Tryz.func11, Tryz.ntmps11
    go_wp2_with fail
    refine wp_loop_rounds 1 ?_
    rw [rounds_succ]
    go_wp2_with fail
    go_quiet (fail)
    have HZ := hide (⟨rfl, rfl, rfl, Nat.le_refl _, fun _ _ => rfl⟩ : Below c w (w.drewN nq))
    have HRZ := hide (HN.out.heap (w' := w.drewN nq) rfl)
    go_wp2_with fail
    go_ret2
    exact ⟨0, wt, rfl, Nat.le_refl _, .inr HRZ.out, HZ.out⟩
end Go.Proofs.YtcagjipdldlehaaGreatDoor
/- A client's connection and the status that it told: what a piece does. -/
namespace Go.Proofs.YtcagjipdldlehaaGreatDoor
open Go.ChangeShapes Go.WideShapes Go.ChangeAt Go.RowKit
set_option linter.unusedVariables false

/-- It is so, and tells this status. -/
def ST (w : World) (c : Nat) (hd : Int) (bd : Nat) (s : Int) : Prop := (s = 0 ∧ (SR w c hd bd ∨ SW w c hd bd)) ∨ (stOk s ∧ SS w c s)
theorem ST.cl {w : World} {c : Nat} {hd : Int} {bd : Nat} {s : Int} (h : ST w c hd bd s) : ∃ hd' bd' st bg wt pv rv bv, ClB w c hd' bd' st bg wt pv rv bv s := by
  rcases h with ⟨rfl, h | ⟨pv, bv, h⟩⟩ | ⟨-, h⟩
  · obtain ⟨f, st, bg, pv, rv, bv, hf, rfl, hc⟩ := h.cl
    exact ⟨_, _, _, _, _, _, _, _, hc⟩
  · exact ⟨_, _, _, _, _, _, _, _, h⟩
  · exact ⟨_, _, _, _, _, _, _, _, h⟩
theorem ST.sa {w : World} {c : Nat} {hd : Int} {bd : Nat} {s : Int} (h : ST w c hd bd s) : SA w c hd bd := by
  rcases h with ⟨rfl, h | h⟩ | ⟨q, h⟩
  · rcases h with h | h | h
    · exact .inl h
    · exact .inr (.inl h)
    · exact .inr (.inr (.inl h))
  · exact .inr (.inr (.inr (.inl h)))
  · exact .inr (.inr (.inr (.inr ⟨s, h, q⟩)))
theorem ST.ok {w : World} {c : Nat} {hd : Int} {bd : Nat} {s : Int} (h : ST w c hd bd s) : s = 0 ∨ stOk s := by
  rcases h with ⟨rfl, -⟩ | ⟨q, -⟩
  · exact .inl rfl
  · exact .inr q
theorem ST.lt {w : World} {c : Nat} {hd : Int} {bd : Nat} {s : Int} (h : ST w c hd bd s) : c < w.heap.size := by
  obtain ⟨_, _, _, _, _, _, _, _, h⟩ := h.cl
  exact lt_heap h
theorem RdQ.st {w : World} {c : Nat} {hd : Int} {bd : Nat} {ok : Bool} (h : RdQ w c hd bd ok) : ∃ s, ST w c hd bd s ∧ (ok = true → SW w c hd bd ∧ s = 0) := by
  rcases h with ⟨h, rfl⟩ | ⟨rfl, h⟩ | ⟨rfl, s, h, q⟩
  · exact ⟨0, .inl ⟨rfl, .inl h⟩, fun h => nomatch h⟩
  · exact ⟨0, .inl ⟨rfl, .inr h⟩, fun _ => ⟨h, rfl⟩⟩
  · exact ⟨s, .inr ⟨q, h⟩, fun h => nomatch h⟩
theorem st0 : ¬ stOk 0 := by unfold stOk; omega
theorem cread_piece {w : World} {c : Nat} {hd : Int} {bd : Nat} {s : Int} (h : ST w c hd bd s) (hbd : bd ≤ 1048576) (hm : MX w) (he : ET w) (h3 : 3 ≤ c) (a : Option Addr) (vc : Nat) (l : List UInt8) (hv : Bf w (fun k => k < c) (.slice a l.length vc) l) (hl : l.length ≤ 70368744177664) :
    Calls Tryz.prog 11 #[.pointer (some ⟨c, 0, none⟩), .slice a l.length vc] w fun e w' => ∃ (n : Nat) (ok : Bool) (s' : Int), e = .returned (.tuple #[.int .i64 (n : Int), .bool ok]) ∧ n ≤ l.length ∧ (s ≠ 0 → n = 0 ∧ ok = false ∧ s' = s) ∧ ST w' c hd bd s' ∧ (ok = true → SW w' c hd bd ∧ s' = 0) ∧ Below c w w' := by
  by_cases hs : s = 0
  · have key : ∀ e w', (∃ (n : Nat) (ok : Bool), e = Ending.returned (.tuple #[.int .i64 (n : Int), .bool ok]) ∧ n ≤ l.length ∧ RdQ w' c hd bd ok ∧ Below c w w') → ∃ (n : Nat) (ok : Bool) (s' : Int), e = .returned (.tuple #[.int .i64 (n : Int), .bool ok]) ∧ n ≤ l.length ∧ (s ≠ 0 → n = 0 ∧ ok = false ∧ s' = s) ∧ ST w' c hd bd s' ∧ (ok = true → SW w' c hd bd ∧ s' = 0) ∧ Below c w w' := by
      rintro e w' ⟨n, ok, h1, h2, h3, h4⟩
      obtain ⟨s', q1, q2⟩ := h3.st
      exact ⟨n, ok, s', h1, h2, fun x => absurd hs x, q1, q2, h4⟩
    have hcw := h.lt
    cases l with
    | nil => exact (cread_zero h.sa a vc).mono key
    | cons x r =>
      obtain ⟨a', c', e, h1, h2⟩ := id hv
      obtain ⟨g, o, q1, -⟩ := h2 0 (by simp)
      simp only [Value.slice.injEq, true_and] at e
      obtain ⟨rfl, rfl⟩ := e
      subst q1
      exact (cread_any h.sa hbd hm he h3 (by omega) g o vc (x :: r) hv h1 hl).mono key
  · have hS : SS w c s ∧ stOk s := by
      rcases h with ⟨e, -⟩ | ⟨q, h⟩
      · exact absurd e hs
      · exact ⟨h, q⟩
    refine (cread_shut hS.1 a l.length vc hl).mono ?_
    rintro e w' ⟨rfl, h1, h2⟩
    exact ⟨0, false, s, rfl, Nat.zero_le _, fun _ => ⟨rfl, rfl, rfl⟩, .inr ⟨hS.2, h1⟩, (fun h => nomatch h), h2⟩
theorem wrong_st {w : World} {c : Nat} {hd : Int} {bd : Nat} {s : Int} (h : ST w c hd bd s) : Calls Tryz.prog 22 #[.pointer (some ⟨c, 0, none⟩)] w fun e w' => e = .returned (.int .i64 s) ∧ w = w' := by
  obtain ⟨_, _, _, _, _, _, _, _, h⟩ := h.cl
  exact wrong_any h
theorem shut_st {w : World} {c : Nat} {hd : Int} {bd : Nat} {s : Int} (h : ST w c hd bd s) (hs : s ≠ 0) : Calls Tryz.prog 23 #[.pointer (some ⟨c, 0, none⟩)] w fun e w' => e = .returned (.bool true) ∧ w = w' := by
  rcases h with ⟨e, -⟩ | ⟨-, h⟩
  · exact absurd e hs
  · exact shut_nil' h
theorem answered_st {w : World} {c : Nat} {hd : Nat} {bd : Nat} (h : SW w c (hd : Int) bd) (h1 : 16 ≤ hd) (h2 : hd ≤ 65536) : Calls Tryz.prog 15 #[.pointer (some ⟨c, 0, none⟩), .bool true] w fun e w' => e = .returned (.int .i64 0) ∧ ST w' c (hd : Int) bd 0 ∧ Below c w w' := by
  obtain ⟨pv, bv, h⟩ := h
  have hcs : c < w.heap.size := lt_heap h
  refine (answered_keep h h1 h2).mono ?_
  rintro e w' ⟨rfl, g, q1, q2, q3, q4⟩
  exact ⟨rfl, .inl ⟨rfl, .inl (.inl ⟨g, g, _, _, _, _, q3, q2, fit_new true hd h2, sz_new true hd, rfl, rfl, by omega⟩)⟩, q4.low (Nat.le_refl _) (by omega)⟩
end Go.Proofs.YtcagjipdldlehaaGreatDoor
/- ClientWrong, walked. -/
namespace Go.Proofs.YtcagjipdldlehaaGreatDoor
open Go.ChangeShapes Go.WideShapes Go.ChangeAt Go.RowKit
set_option linter.unusedVariables false

theorem Bf.of_bs {w w' : World} {c : Nat} {v : Value} {l : List UInt8} (h : Bs w c v l) (b : Below c w w') : Bf w' (fun k => k < c) v l := by
  obtain ⟨a, n, e, h1, h2⟩ := h
  refine ⟨a, n, e, h1, fun j hj => ?_⟩
  obtain ⟨g, o, q1, q2, q3, q4⟩ := h2 j hj
  have := b.size
  exact ⟨g, o, q1, q2, by omega, (b.cell (p := ⟨g, o + j, none⟩) q2).trans q4⟩
set_option maxHeartbeats 4000000 in
set_option maxRecDepth 100000 in
theorem wrong_walk (w : World) (v : Value) (L : List (List UInt8)) (hP : Pcs w v L) (hfl : L.flatten.length ≤ 70368744177664) (hn : L.length ≤ 70368744177664) (hm : MX w) (he : ET w) (h3 : 3 ≤ w.heap.size) :
    Calls Tryz.prog 5 #[v] w fun e w' => e = .returned (.bool true) ∧ Below w.heap.size w w' := by
  obtain ⟨pa, pc, rfl, hpc, hcells⟩ := hP
  have HPC := hide hcells
  have HM := hide hm
  have HE := hide he
  have HN := hide (cnew_any w 200 20 (by omega) (by omega) (by omega) (by omega))
  have HP := hide (fun W (b : Below w.heap.size w W) => speaks_any W (hm.below b) (he.below b))
  clear hcells hm he
  go_enter Tryz.func5, Tryz.ntmps5
  go_wp2_with (go_at_call 8; refine HN.out.mono ?_; rintro e w1 ⟨rfl, g, hg, q2, q3, b1⟩; have HST : Hid (ST w1 w.heap.size (200 : Int) 20 0) := hide (.inl ⟨rfl, .inl (.inl ⟨g, g, _, _, _, _, q3, q2, fit_new true 200 (by omega), sz_new true 200, rfl, rfl, hg⟩)⟩); have HB := hide b1; clear q2 q3 b1 HN)
  go_loopw [5, 22] (fun st i wr => ∃ (k : Nat) (s : Int), k ≤ L.length ∧ st = .int .i64 s ∧ i = .int .i64 k ∧ Hid (ST wr w.heap.size (200 : Int) 20 s) ∧ Hid (Below w.heap.size w wr)) (fun _ i _ => L.length - (intOf i).toNat)
  case atStart => exact ⟨0, 0, Nat.zero_le _, rfl, rfl, HST, HB⟩
  case round =>
    clear HST HB
    obtain ⟨k, s, hk, rfl, rfl, HST, HB⟩ := hrel
    by_cases hlt : k < L.length
    · have hlti : (k : Int) < (L.length : Int) := by omega
      obtain ⟨g1, o1, ba, bcp, rfl, hg1, q1, hbs, hsh⟩ := HPC.out k hlt
      have hlk : (L[k]).length ≤ 70368744177664 := by
        have e1 := flat_take hlt
        have e2 := flat_le L (k + 1)
        rw [e1, List.length_append] at e2
        omega
      generalize L[k] = b at q1 hbs hsh hlk
      have r1 : wr.cell? ⟨g1, o1 + k, none⟩ = some (.slice ba b.length bcp) := (HB.out.cell (p := ⟨g1, o1 + k, none⟩) hg1).trans q1
      have HR := hide (cread_piece HST.out (by omega) (HM.out.low HB.out h3) (HE.out.low HB.out h3) h3 ba bcp b (Bf.of_bs hbs HB.out) hlk)
      have HOK0 := hide HST.out.ok
      clear q1 hbs hsh HST
      by_cases hs : s = 0
      · subst hs
        go_upto_region 8 with fail
        go_wp2_with fail
        refine HR.out.mono ?_; rintro e w2 ⟨n, ok, s', rfl, hn1, -, y1, y2, y3⟩; have HST := hide y1; have HOK := hide y2; have HB2 := hide (HB.out.trans y3); clear y1 y2 y3 HR HB r1; have hni : ¬ ((b.length : Int) < (n : Int)) := by omega
        have hn0 : ¬ ((n : Int) < 0) := by omega
        have HW := hide (wrong_st HST.out)
        rcases HST.out.ok with rfl | hst
        · cases ok
          · go_wp2_with (go_at_call 22; refine HW.out.mono ?_; rintro e w3 ⟨rfl, rfl⟩)
            go_roundw
            case rel => exact ⟨k + 1, 0, by omega, rfl, by go_num, HST, HB2⟩
            case measure => simp [intOf]; omega
          · have HA := hide (answered_st (hd := 200) (HOK.out rfl).1 (by omega) (by omega))
            go_wp2_with (first | (go_at_call 22; refine HW.out.mono ?_; rintro e w3 ⟨rfl, rfl⟩) | (go_at_call 15; refine HA.out.mono ?_; rintro e w3 ⟨rfl, z1, z2⟩; have HST3 := hide z1; have HB3 := hide (HB2.out.trans z2); clear z1 z2 HA HW HST HB2))
            go_roundw
            case rel => exact ⟨k + 1, 0, by omega, rfl, by go_num, HST3, HB3⟩
            case measure => simp [intOf]; omega
        · have hok : ok = false := by
            cases ok with
            | false => rfl
            | true => rw [(HOK.out rfl).2] at hst; exact absurd hst st0
          subst hok
          rcases hst with rfl | rfl | rfl
          all_goals
            go_wp2_with (go_at_call 22; refine HW.out.mono ?_; rintro e w3 ⟨rfl, rfl⟩)
            go_roundw
            case rel => exact ⟨k + 1, _, by omega, rfl, by go_num, HST, HB2⟩
            case measure => simp [intOf]; omega
      · have hst : stOk s := HOK0.out.resolve_left hs
        go_upto_region 8 with fail
        go_wp2_with fail
        refine HR.out.mono ?_
        rintro e w2 ⟨n, ok, s', rfl, hn1, hs1, y1, y2, y3⟩
        obtain ⟨rfl, rfl, rfl⟩ := hs1 hs
        have HST := hide y1
        have HB2 := hide (HB.out.trans y3)
        have HW := hide (wrong_st y1)
        have HS := hide (shut_st y1 hs)
        clear y1 y2 y3 HR HB r1 hs1 HOK0
        have hni : ¬ ((b.length : Int) < 0) := by omega
        rcases hst with rfl | rfl | rfl
        all_goals
          go_wp2_with (first | (go_at_call 22; refine HW.out.mono ?_; rintro e w3 ⟨rfl, rfl⟩) | (go_at_call 23; refine HS.out.mono ?_; rintro e w3 ⟨rfl, rfl⟩))
          go_roundw
          case rel => exact ⟨k + 1, _, by omega, rfl, by go_num, HST, HB2⟩
          case measure => simp [intOf]; omega
    · have hlti : ¬ (k : Int) < (L.length : Int) := by omega
      go_wp2_with (go_at_call 10; refine (HP.out _ HB.out).mono ?_; rintro e w2 ⟨rfl, y1⟩; have HB2 := hide (HB.out.trans (y1.mono HB.out.size)))
      go_ret
      exact ⟨rfl, HB2.out⟩
end Go.Proofs.YtcagjipdldlehaaGreatDoor
