/- ChainSteps returns true for all marks and all lists of steps, and changes nothing that was there. -/
import Derived.Test.YtglhoihiaflmgabRefPut
namespace Go.Proofs.Ytglhoihiaflmgab
open Go.ChangeShapes Go.WideShapes Go.ChangeAt Go.RowKit

/-- The chain and the document's chain have the same bytes, and are stopped alike. -/
def SInv (w : World) (bound high low : Nat) (wr : World) : Prop :=
  ∃ (L : List Int) (stop : Bool) (r : Nat) (v : Value), Fr (fun i => w.heap.size ≤ i) w wr ∧ Chain wr (w.heap.size + 1) r bound high low L stop ∧ r < wr.heap.size ∧ w.heap.size < r ∧ r ≠ w.heap.size + 2 ∧
    Ref wr (w.heap.size + 3) (w.heap.size + 2) bound high low v L stop ∧ w.heap.size + 3 ≤ wr.heap.size ∧ (stop = true → low < L.length) ∧ Bytes L ∧ (∀ g, v.ownBlock = some g → g ≠ r)

theorem SInv.drewN {w : World} {bound high low : Nat} {W : World} (h : SInv w bound high low W) (q : Nat) : SInv w bound high low (W.drewN q) := by
  obtain ⟨L, stop, r, v, h1, h2, h3, h4, h5, h6, h7, h8, h9, h10⟩ := h
  exact ⟨L, stop, r, v, h1.trans (Fr.drewN (fun i => w.heap.size ≤ i) W q) (fun _ _ x => x), h2.drewN q, h3, h4, h5, h6.frame (Fr.drewN (fun _ => False) W q) (fun x => x) (fun _ _ x => x), h7, h8, h9, h10⟩
theorem put_stop {stop : Bool} {low high : Nat} {L X : List Int} {bound : Nat} (h : stop = true → low < L.length) (hl : low < high) (k : putStop stop high L.length (kPut X bound L.length) = true) : low < (L ++ X.take (kPut X bound L.length)).length := by
  have el : (L ++ X.take (kPut X bound L.length)).length = L.length + kPut X bound L.length := by unfold kPut; simp
  rw [el]
  unfold putStop at k
  simp at k
  rcases k with k | ⟨_, k⟩
  · have := h k; omega
  · omega
theorem bytes_put {L X : List Int} {k : Nat} (h : Bytes L) (hx : Bytes X) : Bytes (L ++ X.take k) := by
  intro z hz
  rcases List.mem_append.1 hz with hz | hz
  · exact h z hz
  · exact hx z (List.mem_of_mem_take hz)
theorem bytes_drop {L : List Int} {k : Nat} (h : Bytes L) : Bytes (L.drop k) := fun z hz => h z (List.mem_of_mem_drop hz)
theorem drop_stop {stop : Bool} {low k : Nat} {L : List Int} (h : stop = true → low < L.length) : dropStop stop low L.length k = (stop && decide (low < L.length - k)) := by
  unfold dropStop
  by_cases h0 : k = 0
  · subst h0
    cases stop
    · simp
    · simp [h rfl]
  · rw [if_neg h0]
theorem drop_low {stop : Bool} {low k : Nat} {L : List Int} (h : stop = true → low < L.length) (hk : dropStop stop low L.length k = true) : low < (L.drop k).length := by
  rw [drop_stop h] at hk
  simp at hk
  simp
  omega

theorem wrap_byte (n : Int) : 0 ≤ IntKind.u8.wrap n ∧ IntKind.u8.wrap n ≤ 255 := bounds_u8 (wf_wrap _ _)

theorem steps_bad (bound high low : Int) (l : Value) (w : World) (h : ¬ (1 ≤ bound ∧ bound ≤ 1048576 ∧ 1 ≤ high ∧ high ≤ bound ∧ 0 ≤ low ∧ low < high)) :
    Calls Try.prog 3 #[.agg #[.int .i64 bound, .int .i64 high, .int .i64 low], l] w fun e w' => e = .returned (.bool true) ∧ Below w.heap.size w w' := by
  have hn := hide (fun W => new_no bound high low W h)
  have hr := hide (fun W => rnew_no bound high low W h)
  clear h
  go_enter Try.func3, Try.ntmps3
  go_wp2_with (first | (go_at_call 8; refine (hn.out _).mono ?_; rintro e w' ⟨rfl, rfl⟩) | (go_at_call 9; refine (hr.out _).mono ?_; rintro e w' ⟨rfl, rfl⟩) | (go_at_call 10; refine (speaks_any _).mono ?_; rintro e w' ⟨rfl, F⟩))
  go_ret
  exact ⟨rfl, ((Below.refl _ _).alloc (Nat.le_refl _) _).trans ((F.below (Nat.le_refl _) (fun _ _ x => x)).mono (by simp))⟩

set_option maxRecDepth 100000 in
set_option maxHeartbeats 8000000 in
theorem steps_good (bound high low : Nat) (m : Marks bound high low) (ad : Option Addr) (len cap : Nat) (Xf : Nat → List Int) (w : World) (hlen : len ≤ 9223372036854775807)
    (hst : ∀ i, i < len → ∃ b off kd n a c, ad = some ⟨b, off, none⟩ ∧ StepAt w b off i kd n a c (Xf i)) :
    Calls Try.prog 3 #[.agg #[.int .i64 (bound : Int), .int .i64 (high : Int), .int .i64 (low : Int)], .slice ad len cap] w fun e w' => e = .returned (.bool true) ∧ Below w.heap.size w w' := by
  have HS := hide hst
  have M := hide m
  clear hst m
  go_enter Try.func3, Try.ntmps3
  go_wp2_with fail
  refine (new_yes bound high low M.out _).mono ?_
  rintro e w1 ⟨rfl, F1, z1, C1⟩
  have F1' : Hid (Fr (fun _ => False) w w1) := hide ((Fr.alloc _ w _).trans F1 (fun _ _ x => x))
  have zz1 : w.heap.size + 1 < w1.heap.size := by rw [z1]; simp
  have hz1 : Hid (w1.heap.size = w.heap.size + 2) := hide (by rw [z1]; simp)
  have x1 := hide (F1.hd (fun x => x) (hp_new w (.cells #[.int .i64 (bound : Int), .int .i64 (high : Int), .int .i64 (low : Int)] 23)))
  have c0 : w1.cell? ⟨w.heap.size, 0, none⟩ = some (.int .i64 (bound : Int)) := by rw [cell_of x1.out]; rfl
  have c1 : w1.cell? ⟨w.heap.size, 1, none⟩ = some (.int .i64 (high : Int)) := by rw [cell_of x1.out]; rfl
  have c2 : w1.cell? ⟨w.heap.size, 2, none⟩ = some (.int .i64 (low : Int)) := by rw [cell_of x1.out]; rfl
  have CC1 : Hid (Chain w1 (w.heap.size + 1) (w.heap.size + 1) bound high low [] false) := hide (by simpa using C1)
  clear F1 z1 C1
  go_wp2_with fail
  refine (rnew_yes bound high low M.out _).mono ?_
  rintro e w2 ⟨rfl, F2, z2, R2⟩
  rw [hz1.out] at R2 z2
  rw [hz1.out]
  have I1 : Hid (SInv w bound high low w2) := hide ⟨[], false, w.heap.size + 1, _, (F1'.out.trans F2 (fun _ _ x => x)).mono (fun _ _ x => x.elim), CC1.out.frame F2 (fun x => x) (fun x => x), by omega, by omega, by omega, R2, by omega, by simp, by intro x hx; simp at hx, by intro g hg; simp [Value.ownBlock] at hg⟩
  clear F2 z2 R2 c0 c1 c2 x1 CC1 hz1 F1' zz1
  go_wp2_with fail
  go_loopw [46] (fun i wr => ∃ j : Nat, j ≤ len ∧ i = .int .i64 j ∧ Hid (SInv w bound high low wr)) (fun i _ => len - (intOf i).toNat)
  case atStart => exact ⟨0, Nat.zero_le _, rfl, I1⟩
  case round =>
    obtain ⟨j, hj, rfl, HI⟩ := hrel
    by_cases hlt : j < len
    · obtain ⟨b, off, kd, n, a, c, rfl, hs⟩ := HS.out j hlt
      obtain ⟨L, stop, r, v, F, C, hr, hrN, hr2, R, hsz, hstop, hB, hd⟩ := HI.out
      have hs2 := hs.frame F
      have c0 := hs2.c0
      have c1 := hs2.c1
      have c2 := hs2.c2
      have HSt := hide hs2
      have HS0 := hide hs
      have HF := hide F
      have HC := hide C
      have HR := hide R
      have HSP := hide hstop
      have HB := hide hB
      have HD := hide hd
      have hX : (Xf j).length ≤ 9223372036854775807 := hs.len
      have hNr : w.heap.size ≤ wr.heap.size := F.size
      obtain ⟨X, HXf⟩ : ∃ X, Hid (Xf j = X) := ⟨_, hide rfl⟩
      rw [HXf.out] at HSt HS0 hX c2
      clear hs hs2 F C R hstop hB hd HI I1
      by_cases k0 : kd = 0
      · subst k0
        go_wp2_with fail
        have FA : Fr (fun _ => False) wr (wr.alloc (.cells #[.int .i64 0, .int .i64 n, .slice a X.length c] 35)).drew := (Fr.alloc _ _ _).trans (Fr.drew (fun _ => False) _) (fun _ _ x => x)
        have nA : Hid ((wr.alloc (.cells #[.int .i64 0, .int .i64 n, .slice a X.length c] 35)).drew.heap[wr.heap.size]? = some (.cells #[.int .i64 0, .int .i64 n, .slice a X.length c] 35 (0, 0))) := hide (hp_new wr _)
        have zA : (wr.alloc (.cells #[.int .i64 0, .int .i64 n, .slice a X.length c] 35)).drew.heap.size = wr.heap.size + 1 := by show (wr.alloc _).heap.size = _; simp
        have HFA := hide FA
        have CA := hide (HC.out.frame FA (fun x => x) (fun x => x))
        have RA := hide (HR.out.frame FA (fun x => x) (fun _ _ x => x))
        have F0A : Hid (Fr (fun i => w.heap.size ≤ i) w _) := hide (HF.out.trans FA (fun _ _ x => x.elim))
        have y1 := cell_of nA.out 1
        have y2 := cell_of nA.out 2
        have vb : Hid (∀ g, v.ownBlock = some g → w.heap.size + 3 ≤ g ∧ g < wr.heap.size) := hide (fun g hg => HR.out.own.block hg)
        clear FA c0 c1 c2 HC HR HF HSt
        refine wp_region_noPanic ?_
        refine wp_region_held_drew (S := (fun W => W.cell? ⟨wr.heap.size, 2, none⟩ = some (.slice a X.length c))) (by kernel_rfl) y2 (fun hHeld => ?_)
        refine wpAnyH_take (i := 0) (v := ?_) rfl (by kernel_rfl) (by kernel_rfl) (by kernel_rfl) (fun _ _ _ h => h) (Or.inl ⟨by rfl, ?_⟩) (by assumption) ?_
        rotate_left
        · (intro w hSw; (try dsimp only at hSw); go_simp; try with_reducible rfl)
        simp only [List.getElem_toArray, List.getElem_cons_zero, Act.put, List.setIfInBounds_toArray, List.set_cons_zero, List.set_cons_succ]
        refine wpAnyH_take (i := 1) (v := ?_) rfl (by kernel_rfl) (by kernel_rfl) (by kernel_rfl) (fun _ _ _ h => h) (Or.inl ⟨by rfl, ?_⟩) (by assumption) ?_
        rotate_left
        · (intro w hSw; (try dsimp only at hSw); go_simp; try with_reducible rfl)
        simp only [List.getElem_toArray, List.getElem_cons_zero, List.getElem_cons_succ, Act.put, List.setIfInBounds_toArray, List.set_cons_zero, List.set_cons_succ]
        refine wpAnyH_take (i := 2) (v := ?_) rfl (by kernel_rfl) (by kernel_rfl) (by kernel_rfl) (fun _ _ _ h => h) (Or.inl ⟨by rfl, ?_⟩) (by assumption) ?_
        rotate_left
        · (intro w hSw; (try dsimp only at hSw); go_simp; try with_reducible rfl)
        simp only [List.getElem_toArray, List.getElem_cons_zero, List.getElem_cons_succ, Act.put, List.setIfInBounds_toArray, List.set_cons_zero, List.set_cons_succ]
        refine wpAnyH_take (i := 4) (v := ?_) rfl (by kernel_rfl) (by kernel_rfl) (by kernel_rfl) (fun _ _ _ h => h) (Or.inl ⟨by rfl, ?_⟩) (by assumption) ?_
        rotate_left
        · (intro w hSw; (try dsimp only at hSw); go_simp; try with_reducible rfl)
        simp only [List.getElem_toArray, List.getElem_cons_zero, List.getElem_cons_succ, Act.put, List.setIfInBounds_toArray, List.set_cons_zero, List.set_cons_succ]
        refine wpAnyH_take (i := 5) (v := ?_) rfl (by kernel_rfl) (by kernel_rfl) (by kernel_rfl) (fun _ _ _ h => h) (Or.inl ⟨by rfl, ?_⟩) (by assumption) ?_
        rotate_left
        · (intro w hSw; (try dsimp only at hSw); go_simp; try with_reducible rfl)
        simp only [List.getElem_toArray, List.getElem_cons_zero, List.getElem_cons_succ, Act.put, List.setIfInBounds_toArray, List.set_cons_zero, List.set_cons_succ]
        refine wpAnyH_take (i := 6) (v := ?_) rfl (by kernel_rfl) (by kernel_rfl) (by kernel_rfl) (fun _ _ _ h => h) (Or.inl ⟨by rfl, ?_⟩) (by assumption) ?_
        rotate_left
        · (intro w hSw; (try dsimp only at hSw); go_simp; try with_reducible rfl)
        simp only [List.getElem_toArray, List.getElem_cons_zero, List.getElem_cons_succ, Act.put, List.setIfInBounds_toArray, List.set_cons_zero, List.set_cons_succ]
        refine wpAnyH_ready (rs := [3]) (by kernel_rfl) (by simp) ?_
        refine AllReadyH.cons rfl (fun K hK => ?_) AllReadyH.nil
        go_simp
        refine (put_any CA.out _ X (HS0.out.frame F0A.out).sl (fun b off n c e hn => ⟨by have := HS0.out.lies b off n c e hn; omega, by have := HS0.out.lies b off n c e hn; omega, by have := HS0.out.lies b off n c e hn; omega⟩) hX).mono ?_
        rintro e w5 ⟨rfl, F5, r5, C5, hr5⟩
        have z5 : wr.heap.size + 1 ≤ w5.heap.size := by have := F5.size; omega
        have s5 : w5.cell? ⟨wr.heap.size, 2, none⟩ = some (.slice a X.length c) := by rw [cell_of (F5.hd (by omega) nA.out)]; rfl
        have n5 := hide (F5.hd (by omega) nA.out)
        have R5 := hide (RA.out.frame F5 (by omega) (fun g hg => by have := vb.out g hg; have := HD.out g hg; omega))
        have F05 : Hid (Fr (fun i => w.heap.size ≤ i) w w5) := hide (F0A.out.trans F5 (fun i _ h => by omega))
        obtain ⟨r6, C6, hr6, hr6'⟩ := C5.low
        have CC6 := hide C6
        have r6N : w.heap.size < r6 ∧ r6 ≠ w.heap.size + 2 := by omega
        have HD6 : Hid (∀ g, v.ownBlock = some g → g ≠ r6) := hide (fun g hg => by have := vb.out g hg; have := HD.out g hg; omega)
        clear F5 C5 hr5 C6 hr6'
        go_wp2_with fail
        refine hK.out _ _ s5 (fun hHeld => ?_)
        clear hK K
        try simp only [List.getElem_toArray, List.getElem_cons_zero, List.getElem_cons_succ, Act.put, List.setIfInBounds_toArray, List.set_cons_zero, List.set_cons_succ]
        refine wpAnyH_ready (rs := [7]) (by kernel_rfl) (by simp) ?_
        refine AllReadyH.cons rfl (fun K hK => ?_) AllReadyH.nil
        go_simp
        refine (rput_any R5.out (by omega) a c X (HS0.out.frame F05.out).sl (fun b off n c e hn => ⟨by have := HS0.out.lies b off n c e hn; omega, fun h => by have := HS0.out.lies b off n c e hn; have := vb.out _ h; omega, by have := HS0.out.lies b off n c e hn; omega⟩) hX).mono ?_
        rintro e w6 ⟨rfl, F6, v6, R6, hv6⟩
        have z6 : w5.heap.size ≤ w6.heap.size := F6.size
        have s6 : w6.cell? ⟨wr.heap.size, 2, none⟩ = some (.slice a X.length c) := by rw [cell_of (F6.hd (fun h => by rcases h with h | h; omega; have := vb.out _ h; omega) n5.out)]; rfl
        have HI2 : Hid (SInv w bound high low w6) := hide ⟨_, _, r6, v6, F05.out.trans F6 (fun i _ h => by rcases h with h | h; omega; have := vb.out _ h; omega), CC6.out.frame F6 (fun h => by rcases h with h | h; omega; have := vb.out _ h; omega) (fun h => by rcases h with h | h; omega; exact HD6.out _ h rfl), by omega, by omega, by omega, R6, by omega, fun h => put_stop HSP.out M.out.h4 h, bytes_put HB.out HS0.out.by', fun g hg => by rcases hv6 with e | ⟨g', e, hg'⟩; rw [e] at hg; exact HD6.out g hg; rw [e] at hg; simp only [Option.some.injEq] at hg; omega⟩
        clear F6 R6 hv6
        go_wp2_with fail
        refine hK.out _ _ s6 (fun hHeld => ?_)
        clear hK K
        try simp only [List.getElem_toArray, List.getElem_cons_zero, List.getElem_cons_succ, Act.put, List.setIfInBounds_toArray, List.set_cons_zero, List.set_cons_succ]
        refine wpAnyH_take (i := 8) (v := ?_) rfl (by kernel_rfl) (by kernel_rfl) (by kernel_rfl) (fun _ _ _ h => h) (Or.inl ⟨by rfl, ?_⟩) (by assumption) ?_
        rotate_left
        · (intro w hSw; (try dsimp only at hSw); go_simp; try with_reducible rfl)
        simp only [List.getElem_toArray, List.getElem_cons_zero, List.getElem_cons_succ, Act.put, List.setIfInBounds_toArray, List.set_cons_zero, List.set_cons_succ]
        refine wpAnyH_done (by kernel_rfl) ?_ _
        refine NoPanic.normal ?_
        obtain ⟨L2, stop2, r2, v2, -, G2, -, -, -, G6, -, -, -, -⟩ := HI2.out
        obtain ⟨a2, c2', e2, -⟩ := G6.own.sl.shape
        subst e2
        have d0 := G6.hd.c0
        have d3 := G6.hd.c3
        have d4 := G6.hd.c4
        have l2b : L2.length ≤ bound := G2.fits
        have b2b : bound ≤ 1048576 := M.out.h3
        have LQ : Hid (∀ q, Calls Try.prog 20 #[.pointer (some ⟨w.heap.size + 1, 0, none⟩)] (w6.drewN q) fun e w' => e = .returned (.int .i64 (L2.length : Int)) ∧ w' = w6.drewN q) := hide (fun q => (len_chain (G2.drewN q)).mono (fun e w' h => ⟨h.1, h.2.symm⟩))
        have SQ : Hid (∀ q, Calls Try.prog 22 #[.pointer (some ⟨w.heap.size + 1, 0, none⟩)] (w6.drewN q) fun e w' => e = .returned (.bool stop2) ∧ w' = w6.drewN q) := hide (fun q => (stopped_chain (G2.drewN q)).mono (fun e w' h => ⟨h.1, h.2.symm⟩))
        have RQ : Hid (∀ q, Calls Try.prog 21 #[.pointer (some ⟨w.heap.size + 1, 0, none⟩)] (w6.drewN q) fun e w' => e = .returned (.int .i64 ((bound : Int) - L2.length)) ∧ ∃ m, w' = w6.drewN m) := hide (fun q => (room_chain (G2.drewN q)).mono (fun e w' h => ⟨h.1, by obtain ⟨m, hm⟩ := h.2; exact ⟨q + m, by rw [← hm]; simp⟩⟩))
        clear G2 G6
        go_wp2_with fail
        go_quiet ((first | (go_at_call 20; exact Calls.quiet_of_same (LQ.out _)) | (go_at_call 21; exact RQ.out _) | (go_at_call 22; exact Calls.quiet_of_same (SQ.out _))))
        go_wp2
        go_roundw
        case rel => exact ⟨j + 1, by omega, by go_num, hide (HI2.out.drewN _)⟩
        case measure => simp [intOf]; omega
      · by_cases k1 : kd = 1
        · subst k1
          go_wp2_with fail
          have FA : Fr (fun _ => False) wr (wr.alloc (.cells #[.int .i64 1, .int .i64 n, .slice a X.length c] 35)).drew := (Fr.alloc _ _ _).trans (Fr.drew (fun _ => False) _) (fun _ _ x => x)
          have nA : Hid ((wr.alloc (.cells #[.int .i64 1, .int .i64 n, .slice a X.length c] 35)).drew.heap[wr.heap.size]? = some (.cells #[.int .i64 1, .int .i64 n, .slice a X.length c] 35 (0, 0))) := hide (hp_new wr _)
          have zA : (wr.alloc (.cells #[.int .i64 1, .int .i64 n, .slice a X.length c] 35)).drew.heap.size = wr.heap.size + 1 := by show (wr.alloc _).heap.size = _; simp
          have HFA := hide FA
          have CA := hide (HC.out.frame FA (fun x => x) (fun x => x))
          have RA := hide (HR.out.frame FA (fun x => x) (fun _ _ x => x))
          have F0A : Hid (Fr (fun i => w.heap.size ≤ i) w _) := hide (HF.out.trans FA (fun _ _ x => x.elim))
          have y1 := cell_of nA.out 1
          have y2 := cell_of nA.out 2
          have vb : Hid (∀ g, v.ownBlock = some g → w.heap.size + 3 ≤ g ∧ g < wr.heap.size) := hide (fun g hg => HR.out.own.block hg)
          clear FA c0 c1 c2 HC HR HF HSt
          refine wp_region_noPanic ?_
          refine wp_region_held_drew (S := (fun W => W.cell? ⟨wr.heap.size, 1, none⟩ = some (.int .i64 n))) (by kernel_rfl) y1 (fun hHeld => ?_)
          refine wpAnyH_take (i := 0) (v := ?_) rfl (by kernel_rfl) (by kernel_rfl) (by kernel_rfl) (fun _ _ _ h => h) (Or.inl ⟨by rfl, ?_⟩) (by assumption) ?_
          rotate_left
          · (intro w hSw; (try dsimp only at hSw); go_simp; try with_reducible rfl)
          simp only [List.getElem_toArray, List.getElem_cons_zero, Act.put, List.setIfInBounds_toArray, List.set_cons_zero, List.set_cons_succ]
          refine wpAnyH_take (i := 1) (v := ?_) rfl (by kernel_rfl) (by kernel_rfl) (by kernel_rfl) (fun _ _ _ h => h) (Or.inl ⟨by rfl, ?_⟩) (by assumption) ?_
          rotate_left
          · (intro w hSw; (try dsimp only at hSw); go_simp; try with_reducible rfl)
          simp only [List.getElem_toArray, List.getElem_cons_zero, List.getElem_cons_succ, Act.put, List.setIfInBounds_toArray, List.set_cons_zero, List.set_cons_succ]
          refine wpAnyH_take (i := 2) (v := ?_) rfl (by kernel_rfl) (by kernel_rfl) (by kernel_rfl) (fun _ _ _ h => h) (Or.inl ⟨by rfl, ?_⟩) (by assumption) ?_
          rotate_left
          · (intro w hSw; (try dsimp only at hSw); go_simp; try with_reducible rfl)
          simp only [List.getElem_toArray, List.getElem_cons_zero, List.getElem_cons_succ, Act.put, List.setIfInBounds_toArray, List.set_cons_zero, List.set_cons_succ]
          refine wpAnyH_take (i := 5) (v := ?_) rfl (by kernel_rfl) (by kernel_rfl) (by kernel_rfl) (fun _ _ _ h => h) (Or.inl ⟨by rfl, ?_⟩) (by assumption) ?_
          rotate_left
          · (intro w hSw; (try dsimp only at hSw); go_simp; try with_reducible rfl)
          simp only [List.getElem_toArray, List.getElem_cons_zero, List.getElem_cons_succ, Act.put, List.setIfInBounds_toArray, List.set_cons_zero, List.set_cons_succ]
          refine wpAnyH_take (i := 6) (v := ?_) rfl (by kernel_rfl) (by kernel_rfl) (by kernel_rfl) (fun _ _ _ h => h) (Or.inl ⟨by rfl, ?_⟩) (by assumption) ?_
          rotate_left
          · (intro w hSw; (try dsimp only at hSw); go_simp; try with_reducible rfl)
          simp only [List.getElem_toArray, List.getElem_cons_zero, List.getElem_cons_succ, Act.put, List.setIfInBounds_toArray, List.set_cons_zero, List.set_cons_succ]
          refine wpAnyH_take (i := 7) (v := ?_) rfl (by kernel_rfl) (by kernel_rfl) (by kernel_rfl) (fun _ _ _ h => h) (Or.inl ⟨by rfl, ?_⟩) (by assumption) ?_
          rotate_left
          · (intro w hSw; (try dsimp only at hSw); go_simp; try with_reducible rfl)
          simp only [List.getElem_toArray, List.getElem_cons_zero, List.getElem_cons_succ, Act.put, List.setIfInBounds_toArray, List.set_cons_zero, List.set_cons_succ]
          refine wpAnyH_ready (rs := [3]) (by kernel_rfl) (by simp) ?_
          refine AllReadyH.cons rfl (fun K hK => ?_) AllReadyH.nil
          go_simp
          refine (take_any CA.out n).mono ?_
          rintro e w5 ⟨o5, rfl, F5, S5, L5, C5⟩
          have z5 : wr.heap.size + 1 ≤ w5.heap.size := by have := F5.size; omega
          have s5 : w5.cell? ⟨wr.heap.size, 1, none⟩ = some (.int .i64 n) := by rw [cell_of (F5.hd (by omega) nA.out)]; rfl
          have n5 := hide (F5.hd (by omega) nA.out)
          have R5 := hide (RA.out.frame F5 (by omega) (fun g hg => by have := vb.out g hg; omega))
          have F05 : Hid (Fr (fun i => w.heap.size ≤ i) w w5) := hide (F0A.out.trans F5 (fun i _ h => by omega))
          have CC5 := hide C5
          have t5 := S5.text
          have SS5 := hide S5
          have LL5 := hide L5
          clear F5 S5 L5 C5
          go_wp2_with fail
          refine hK.out _ _ s5 (fun hHeld => ?_)
          clear hK K
          try simp only [List.getElem_toArray, List.getElem_cons_zero, List.getElem_cons_succ, Act.put, List.setIfInBounds_toArray, List.set_cons_zero, List.set_cons_succ]
          obtain ⟨sK, HsK⟩ : ∃ s, Hid (strOfNums (L.take (kOf n L.length)) = s) := ⟨_, hide rfl⟩
          rw [HsK.out] at t5
          refine wpAnyH_weaken (S' := fun W => W.cell? ⟨wr.heap.size, 1, none⟩ = some (.int .i64 n) ∧ (convert 33 9 o5).run Try.prog W = .ok (.string sK) W) (fun W h => h.1) _ _ _ _ ?_
          have hH2 : w5.cell? ⟨wr.heap.size, 1, none⟩ = some (.int .i64 n) ∧ (convert 33 9 o5).run Try.prog w5 = .ok (.string sK) w5 := ⟨s5, t5⟩
          refine wpAnyH_take (i := 4) (v := ?_) rfl (by kernel_rfl) (by kernel_rfl) (by kernel_rfl) (fun _ _ _ h => h) (Or.inl ⟨by rfl, ?_⟩) (by assumption) ?_
          rotate_left
          · (intro w hSw; (try dsimp only at hSw); go_simp; try with_reducible rfl)
          simp only [List.getElem_toArray, List.getElem_cons_zero, List.getElem_cons_succ, Act.put, List.setIfInBounds_toArray, List.set_cons_zero, List.set_cons_succ]
          refine wpAnyH_ready (rs := [8]) (by kernel_rfl) (by simp) ?_
          refine AllReadyH.cons rfl (fun K hK => ?_) AllReadyH.nil
          go_simp
          refine (rtake_any R5.out (by omega) n).mono ?_
          rintro e w6 ⟨o6, v6, rfl, F6, O6, R6, hv6⟩
          have z6 : w5.heap.size ≤ w6.heap.size := F6.size
          have s6 : w6.cell? ⟨wr.heap.size, 1, none⟩ = some (.int .i64 n) := by rw [cell_of (F6.hd (by omega) n5.out)]; rfl
          have HI2 : Hid (SInv w bound high low w6) := hide ⟨_, _, r, v6, F05.out.trans F6 (fun i _ h => by omega), CC5.out.frame F6 (by omega) (by omega), by omega, by omega, by omega, by rw [drop_stop HSP.out]; exact R6, by omega, fun h => drop_low HSP.out h, bytes_drop HB.out, fun g hg => by have := hv6 g hg; omega⟩
          have t6 := O6.sl.text
          rw [HsK.out] at t6
          have u6 := (SS5.out.cellsEq (W' := w6) (fun b off n c e hn => F6.block b (LL5.out b off n c e hn).2 (by have := (LL5.out b off n c e hn).1; omega))).text
          rw [HsK.out] at u6
          clear F6 O6 R6 hv6
          go_wp2_with fail
          refine hK.out _ _ ⟨s6, u6⟩ (fun hHeld => ?_)
          clear hK K
          try simp only [List.getElem_toArray, List.getElem_cons_zero, List.getElem_cons_succ, Act.put, List.setIfInBounds_toArray, List.set_cons_zero, List.set_cons_succ]
          refine wpAnyH_ready (rs := [9]) (by kernel_rfl) (by simp) ?_
          refine AllReadyH.cons rfl (fun K hK => ?_) AllReadyH.nil
          go_simp
          refine hK.out _ _ ⟨s6, u6⟩ (fun hHeld => ?_)
          clear hK K
          try simp only [List.getElem_toArray, List.getElem_cons_zero, List.getElem_cons_succ, Act.put, List.setIfInBounds_toArray, List.set_cons_zero, List.set_cons_succ]
          refine wpAnyH_take (i := 10) (v := ?_) rfl (by kernel_rfl) (by kernel_rfl) (by kernel_rfl) (fun _ _ _ h => h) (Or.inl ⟨by rfl, ?_⟩) (by assumption) ?_
          rotate_left
          · (intro w hSw; (try dsimp only at hSw); go_simp; try with_reducible rfl)
          simp only [List.getElem_toArray, List.getElem_cons_zero, List.getElem_cons_succ, Act.put, List.setIfInBounds_toArray, List.set_cons_zero, List.set_cons_succ]
          refine wpAnyH_done (by kernel_rfl) ?_ _
          refine NoPanic.normal ?_
          obtain ⟨L2, stop2, r2, v2, -, G2, -, -, -, G6, -, -, -, -⟩ := HI2.out
          obtain ⟨a2, c2', e2, -⟩ := G6.own.sl.shape
          subst e2
          have d0 := G6.hd.c0
          have d3 := G6.hd.c3
          have d4 := G6.hd.c4
          have l2b : L2.length ≤ bound := G2.fits
          have b2b : bound ≤ 1048576 := M.out.h3
          have LQ : Hid (∀ q, Calls Try.prog 20 #[.pointer (some ⟨w.heap.size + 1, 0, none⟩)] (w6.drewN q) fun e w' => e = .returned (.int .i64 (L2.length : Int)) ∧ w' = w6.drewN q) := hide (fun q => (len_chain (G2.drewN q)).mono (fun e w' h => ⟨h.1, h.2.symm⟩))
          have SQ : Hid (∀ q, Calls Try.prog 22 #[.pointer (some ⟨w.heap.size + 1, 0, none⟩)] (w6.drewN q) fun e w' => e = .returned (.bool stop2) ∧ w' = w6.drewN q) := hide (fun q => (stopped_chain (G2.drewN q)).mono (fun e w' h => ⟨h.1, h.2.symm⟩))
          have RQ : Hid (∀ q, Calls Try.prog 21 #[.pointer (some ⟨w.heap.size + 1, 0, none⟩)] (w6.drewN q) fun e w' => e = .returned (.int .i64 ((bound : Int) - L2.length)) ∧ ∃ m, w' = w6.drewN m) := hide (fun q => (room_chain (G2.drewN q)).mono (fun e w' h => ⟨h.1, by obtain ⟨m, hm⟩ := h.2; exact ⟨q + m, by rw [← hm]; simp⟩⟩))
          clear G2 G6
          go_wp2_with fail
          go_quiet ((first | (go_at_call 20; exact Calls.quiet_of_same (LQ.out _)) | (go_at_call 21; exact RQ.out _) | (go_at_call 22; exact Calls.quiet_of_same (SQ.out _))))
          go_wp2
          go_roundw
          case rel => exact ⟨j + 1, by omega, by go_num, hide (HI2.out.drewN _)⟩
          case measure => simp [intOf]; omega
        · by_cases k2 : kd = 2
          · subst k2
            go_wp2_with fail
            have FA : Fr (fun _ => False) wr (wr.alloc (.cells #[.int .i64 2, .int .i64 n, .slice a X.length c] 35)).drew := (Fr.alloc _ _ _).trans (Fr.drew (fun _ => False) _) (fun _ _ x => x)
            have nA : Hid ((wr.alloc (.cells #[.int .i64 2, .int .i64 n, .slice a X.length c] 35)).drew.heap[wr.heap.size]? = some (.cells #[.int .i64 2, .int .i64 n, .slice a X.length c] 35 (0, 0))) := hide (hp_new wr _)
            have zA : (wr.alloc (.cells #[.int .i64 2, .int .i64 n, .slice a X.length c] 35)).drew.heap.size = wr.heap.size + 1 := by show (wr.alloc _).heap.size = _; simp
            have HFA := hide FA
            have CA := hide (HC.out.frame FA (fun x => x) (fun x => x))
            have RA := hide (HR.out.frame FA (fun x => x) (fun _ _ x => x))
            have F0A : Hid (Fr (fun i => w.heap.size ≤ i) w _) := hide (HF.out.trans FA (fun _ _ x => x.elim))
            have y1 := cell_of nA.out 1
            have y2 := cell_of nA.out 2
            have vb : Hid (∀ g, v.ownBlock = some g → w.heap.size + 3 ≤ g ∧ g < wr.heap.size) := hide (fun g hg => HR.out.own.block hg)
            clear FA c0 c1 c2 HC HR HF HSt
            refine wp_region_noPanic ?_
            refine wp_region_held_drew (S := (fun W => W.cell? ⟨wr.heap.size, 1, none⟩ = some (.int .i64 n))) (by kernel_rfl) y1 (fun hHeld => ?_)
            refine wpAnyH_take (i := 0) (v := ?_) rfl (by kernel_rfl) (by kernel_rfl) (by kernel_rfl) (fun _ _ _ h => h) (Or.inl ⟨by rfl, ?_⟩) (by assumption) ?_
            rotate_left
            · (intro w hSw; (try dsimp only at hSw); go_simp; try with_reducible rfl)
            simp only [List.getElem_toArray, List.getElem_cons_zero, Act.put, List.setIfInBounds_toArray, List.set_cons_zero, List.set_cons_succ]
            refine wpAnyH_take (i := 1) (v := ?_) rfl (by kernel_rfl) (by kernel_rfl) (by kernel_rfl) (fun _ _ _ h => h) (Or.inl ⟨by rfl, ?_⟩) (by assumption) ?_
            rotate_left
            · (intro w hSw; (try dsimp only at hSw); go_simp; try with_reducible rfl)
            simp only [List.getElem_toArray, List.getElem_cons_zero, List.getElem_cons_succ, Act.put, List.setIfInBounds_toArray, List.set_cons_zero, List.set_cons_succ]
            refine wpAnyH_take (i := 2) (v := ?_) rfl (by kernel_rfl) (by kernel_rfl) (by kernel_rfl) (fun _ _ _ h => h) (Or.inl ⟨by rfl, ?_⟩) (by assumption) ?_
            rotate_left
            · (intro w hSw; (try dsimp only at hSw); go_simp; try with_reducible rfl)
            simp only [List.getElem_toArray, List.getElem_cons_zero, List.getElem_cons_succ, Act.put, List.setIfInBounds_toArray, List.set_cons_zero, List.set_cons_succ]
            refine wpAnyH_take (i := 4) (v := ?_) rfl (by kernel_rfl) (by kernel_rfl) (by kernel_rfl) (fun _ _ _ h => h) (Or.inl ⟨by rfl, ?_⟩) (by assumption) ?_
            rotate_left
            · (intro w hSw; (try dsimp only at hSw); go_simp; try with_reducible rfl)
            simp only [List.getElem_toArray, List.getElem_cons_zero, List.getElem_cons_succ, Act.put, List.setIfInBounds_toArray, List.set_cons_zero, List.set_cons_succ]
            refine wpAnyH_take (i := 5) (v := ?_) rfl (by kernel_rfl) (by kernel_rfl) (by kernel_rfl) (fun _ _ _ h => h) (Or.inl ⟨by rfl, ?_⟩) (by assumption) ?_
            rotate_left
            · (intro w hSw; (try dsimp only at hSw); go_simp; try with_reducible rfl)
            simp only [List.getElem_toArray, List.getElem_cons_zero, List.getElem_cons_succ, Act.put, List.setIfInBounds_toArray, List.set_cons_zero, List.set_cons_succ]
            refine wpAnyH_take (i := 6) (v := ?_) rfl (by kernel_rfl) (by kernel_rfl) (by kernel_rfl) (fun _ _ _ h => h) (Or.inl ⟨by rfl, ?_⟩) (by assumption) ?_
            rotate_left
            · (intro w hSw; (try dsimp only at hSw); go_simp; try with_reducible rfl)
            simp only [List.getElem_toArray, List.getElem_cons_zero, List.getElem_cons_succ, Act.put, List.setIfInBounds_toArray, List.set_cons_zero, List.set_cons_succ]
            refine wpAnyH_ready (rs := [3]) (by kernel_rfl) (by simp) ?_
            refine AllReadyH.cons rfl (fun K hK => ?_) AllReadyH.nil
            go_simp
            refine (drop_any CA.out n).mono ?_
            rintro e w5 ⟨rfl, F5, C5⟩
            have z5 : wr.heap.size + 1 ≤ w5.heap.size := by have := F5.size; omega
            have s5 : w5.cell? ⟨wr.heap.size, 1, none⟩ = some (.int .i64 n) := by rw [cell_of (F5.hd (by omega) nA.out)]; rfl
            have n5 := hide (F5.hd (by omega) nA.out)
            have R5 := hide (RA.out.frame F5 (by omega) (fun g hg => by have := vb.out g hg; omega))
            have F05 : Hid (Fr (fun i => w.heap.size ≤ i) w w5) := hide (F0A.out.trans F5 (fun i _ h => by omega))
            have CC5 := hide C5
            clear F5 C5
            go_wp2_with fail
            refine hK.out _ _ s5 (fun hHeld => ?_)
            clear hK K
            try simp only [List.getElem_toArray, List.getElem_cons_zero, List.getElem_cons_succ, Act.put, List.setIfInBounds_toArray, List.set_cons_zero, List.set_cons_succ]
            refine wpAnyH_ready (rs := [7]) (by kernel_rfl) (by simp) ?_
            refine AllReadyH.cons rfl (fun K hK => ?_) AllReadyH.nil
            go_simp
            refine (rtake_any R5.out (by omega) n).mono ?_
            rintro e w6 ⟨o6, v6, rfl, F6, O6, R6, hv6⟩
            have z6 : w5.heap.size ≤ w6.heap.size := F6.size
            have s6 : w6.cell? ⟨wr.heap.size, 1, none⟩ = some (.int .i64 n) := by rw [cell_of (F6.hd (by omega) n5.out)]; rfl
            have HI2 : Hid (SInv w bound high low w6) := hide ⟨_, _, r, v6, F05.out.trans F6 (fun i _ h => by omega), CC5.out.frame F6 (by omega) (by omega), by omega, by omega, by omega, by rw [drop_stop HSP.out]; exact R6, by omega, fun h => drop_low HSP.out h, bytes_drop HB.out, fun g hg => by have := hv6 g hg; omega⟩
            obtain ⟨ao, co, ho, -⟩ := O6.sl.shape
            have elk : (L.take (kOf n L.length)).length = kOf n L.length := by unfold kOf; simp
            rw [elk] at ho
            subst ho
            clear F6 O6 R6 hv6 elk
            go_wp2_with fail
            refine hK.out _ _ s6 (fun hHeld => ?_)
            clear hK K
            try simp only [List.getElem_toArray, List.getElem_cons_zero, List.getElem_cons_succ, Act.put, List.setIfInBounds_toArray, List.set_cons_zero, List.set_cons_succ]
            refine wpAnyH_take (i := 8) (v := ?_) rfl (by kernel_rfl) (by kernel_rfl) (by kernel_rfl) (fun _ _ _ h => h) (Or.inl ⟨by rfl, ?_⟩) (by assumption) ?_
            rotate_left
            · (intro w hSw; (try dsimp only at hSw); go_simp; try with_reducible rfl)
            simp only [List.getElem_toArray, List.getElem_cons_zero, List.getElem_cons_succ, Act.put, List.setIfInBounds_toArray, List.set_cons_zero, List.set_cons_succ]
            refine wpAnyH_take (i := 9) (v := ?_) rfl (by kernel_rfl) (by kernel_rfl) (by kernel_rfl) (fun _ _ _ h => h) (Or.inl ⟨by rfl, ?_⟩) (by assumption) ?_
            rotate_left
            · (intro w hSw; (try dsimp only at hSw); go_simp; try with_reducible rfl)
            simp only [List.getElem_toArray, List.getElem_cons_zero, List.getElem_cons_succ, Act.put, List.setIfInBounds_toArray, List.set_cons_zero, List.set_cons_succ]
            refine wpAnyH_done (by kernel_rfl) ?_ _
            refine NoPanic.normal ?_
            obtain ⟨L2, stop2, r2, v2, -, G2, -, -, -, G6, -, -, -, -⟩ := HI2.out
            obtain ⟨a2, c2', e2, -⟩ := G6.own.sl.shape
            subst e2
            have d0 := G6.hd.c0
            have d3 := G6.hd.c3
            have d4 := G6.hd.c4
            have l2b : L2.length ≤ bound := G2.fits
            have b2b : bound ≤ 1048576 := M.out.h3
            have LQ : Hid (∀ q, Calls Try.prog 20 #[.pointer (some ⟨w.heap.size + 1, 0, none⟩)] (w6.drewN q) fun e w' => e = .returned (.int .i64 (L2.length : Int)) ∧ w' = w6.drewN q) := hide (fun q => (len_chain (G2.drewN q)).mono (fun e w' h => ⟨h.1, h.2.symm⟩))
            have SQ : Hid (∀ q, Calls Try.prog 22 #[.pointer (some ⟨w.heap.size + 1, 0, none⟩)] (w6.drewN q) fun e w' => e = .returned (.bool stop2) ∧ w' = w6.drewN q) := hide (fun q => (stopped_chain (G2.drewN q)).mono (fun e w' h => ⟨h.1, h.2.symm⟩))
            have RQ : Hid (∀ q, Calls Try.prog 21 #[.pointer (some ⟨w.heap.size + 1, 0, none⟩)] (w6.drewN q) fun e w' => e = .returned (.int .i64 ((bound : Int) - L2.length)) ∧ ∃ m, w' = w6.drewN m) := hide (fun q => (room_chain (G2.drewN q)).mono (fun e w' h => ⟨h.1, by obtain ⟨m, hm⟩ := h.2; exact ⟨q + m, by rw [← hm]; simp⟩⟩))
            clear G2 G6
            go_wp2_with fail
            go_quiet ((first | (go_at_call 20; exact Calls.quiet_of_same (LQ.out _)) | (go_at_call 21; exact RQ.out _) | (go_at_call 22; exact Calls.quiet_of_same (SQ.out _))))
            go_wp2
            go_roundw
            case rel => exact ⟨j + 1, by omega, by go_num, hide (HI2.out.drewN _)⟩
            case measure => simp [intOf]; omega
          · have q0 : (kd == 0) = false := by simpa using k0
            have q1 : (kd == 1) = false := by simpa using k1
            have q2 : (kd == 2) = false := by simpa using k2
            clear k0 k1 k2
            go_wp2_with fail
            have FA : Fr (fun _ => False) wr (wr.alloc (.cells #[.int .i64 kd, .int .i64 n, .slice a X.length c] 35)).drew := (Fr.alloc _ _ _).trans (Fr.drew (fun _ => False) _) (fun _ _ x => x)
            have nA : Hid ((wr.alloc (.cells #[.int .i64 kd, .int .i64 n, .slice a X.length c] 35)).drew.heap[wr.heap.size]? = some (.cells #[.int .i64 kd, .int .i64 n, .slice a X.length c] 35 (0, 0))) := hide (hp_new wr _)
            have zA : (wr.alloc (.cells #[.int .i64 kd, .int .i64 n, .slice a X.length c] 35)).drew.heap.size = wr.heap.size + 1 := by show (wr.alloc _).heap.size = _; simp
            have HFA := hide FA
            have CA := hide (HC.out.frame FA (fun x => x) (fun x => x))
            have RA := hide (HR.out.frame FA (fun x => x) (fun _ _ x => x))
            have F0A : Hid (Fr (fun i => w.heap.size ≤ i) w _) := hide (HF.out.trans FA (fun _ _ x => x.elim))
            have y1 := cell_of nA.out 1
            have y2 := cell_of nA.out 2
            have vb : Hid (∀ g, v.ownBlock = some g → w.heap.size + 3 ≤ g ∧ g < wr.heap.size) := hide (fun g hg => HR.out.own.block hg)
            clear FA c0 c1 c2 HC HR HF HSt
            refine wp_region_noPanic ?_
            refine wp_region_held_drew (S := (fun W => W.cell? ⟨wr.heap.size, 1, none⟩ = some (.int .i64 n))) (by kernel_rfl) y1 (fun hHeld => ?_)
            refine wpAnyH_take (i := 0) (v := ?_) rfl (by kernel_rfl) (by kernel_rfl) (by kernel_rfl) (fun _ _ _ h => h) (Or.inl ⟨by rfl, ?_⟩) (by assumption) ?_
            rotate_left
            · (intro w hSw; (try dsimp only at hSw); go_simp; try with_reducible rfl)
            simp only [List.getElem_toArray, List.getElem_cons_zero, Act.put, List.setIfInBounds_toArray, List.set_cons_zero, List.set_cons_succ]
            refine wpAnyH_take (i := 1) (v := ?_) rfl (by kernel_rfl) (by kernel_rfl) (by kernel_rfl) (fun _ _ _ h => h) (Or.inl ⟨by rfl, ?_⟩) (by assumption) ?_
            rotate_left
            · (intro w hSw; (try dsimp only at hSw); go_simp; try with_reducible rfl)
            simp only [List.getElem_toArray, List.getElem_cons_zero, List.getElem_cons_succ, Act.put, List.setIfInBounds_toArray, List.set_cons_zero, List.set_cons_succ]
            refine wpAnyH_take (i := 2) (v := ?_) rfl (by kernel_rfl) (by kernel_rfl) (by kernel_rfl) (fun _ _ _ h => h) (Or.inl ⟨by rfl, ?_⟩) (by assumption) ?_
            rotate_left
            · (intro w hSw; (try dsimp only at hSw); go_simp; try with_reducible rfl)
            simp only [List.getElem_toArray, List.getElem_cons_zero, List.getElem_cons_succ, Act.put, List.setIfInBounds_toArray, List.set_cons_zero, List.set_cons_succ]
            refine wpAnyH_take (i := 5) (v := ?_) rfl (by kernel_rfl) (by kernel_rfl) (by kernel_rfl) (fun _ _ _ h => h) (Or.inl ⟨by rfl, ?_⟩) (by assumption) ?_
            rotate_left
            · (intro w hSw; (try dsimp only at hSw); go_simp; try with_reducible rfl)
            simp only [List.getElem_toArray, List.getElem_cons_zero, List.getElem_cons_succ, Act.put, List.setIfInBounds_toArray, List.set_cons_zero, List.set_cons_succ]
            refine wpAnyH_take (i := 6) (v := ?_) rfl (by kernel_rfl) (by kernel_rfl) (by kernel_rfl) (fun _ _ _ h => h) (Or.inl ⟨by rfl, ?_⟩) (by assumption) ?_
            rotate_left
            · (intro w hSw; (try dsimp only at hSw); go_simp; try with_reducible rfl)
            simp only [List.getElem_toArray, List.getElem_cons_zero, List.getElem_cons_succ, Act.put, List.setIfInBounds_toArray, List.set_cons_zero, List.set_cons_succ]
            refine wpAnyH_take (i := 7) (v := ?_) rfl (by kernel_rfl) (by kernel_rfl) (by kernel_rfl) (fun _ _ _ h => h) (Or.inl ⟨by rfl, ?_⟩) (by assumption) ?_
            rotate_left
            · (intro w hSw; (try dsimp only at hSw); go_simp; try with_reducible rfl)
            simp only [List.getElem_toArray, List.getElem_cons_zero, List.getElem_cons_succ, Act.put, List.setIfInBounds_toArray, List.set_cons_zero, List.set_cons_succ]
            refine wpAnyH_ready (rs := [3]) (by kernel_rfl) (by simp) ?_
            refine AllReadyH.cons rfl (fun K hK => ?_) AllReadyH.nil
            go_simp
            refine (peek_any CA.out n).mono ?_
            rintro e w5 ⟨o5, rfl, F5, S5, L5, -⟩
            have z5 : wr.heap.size + 1 ≤ w5.heap.size := by have := F5.size; omega
            have s5 : w5.cell? ⟨wr.heap.size, 1, none⟩ = some (.int .i64 n) := by rw [cell_of (F5.hd (fun x => x) nA.out)]; rfl
            have n5 := hide (F5.hd (fun x => x) nA.out)
            have R5 := hide (RA.out.frame F5 (fun x => x) (fun _ _ x => x))
            have C5 := hide (CA.out.frame F5 (fun x => x) (fun x => x))
            have F05 : Hid (Fr (fun i => w.heap.size ≤ i) w w5) := hide (F0A.out.trans F5 (fun _ _ x => x.elim))
            have t5 := S5.text
            have SS5 := hide S5
            have LL5 := hide L5
            clear F5 S5 L5
            go_wp2_with fail
            refine hK.out _ _ s5 (fun hHeld => ?_)
            clear hK K
            try simp only [List.getElem_toArray, List.getElem_cons_zero, List.getElem_cons_succ, Act.put, List.setIfInBounds_toArray, List.set_cons_zero, List.set_cons_succ]
            obtain ⟨sK, HsK⟩ : ∃ s, Hid (strOfNums (L.take (kOf n L.length)) = s) := ⟨_, hide rfl⟩
            rw [HsK.out] at t5
            refine wpAnyH_weaken (S' := fun W => W.cell? ⟨wr.heap.size, 1, none⟩ = some (.int .i64 n) ∧ (convert 33 9 o5).run Try.prog W = .ok (.string sK) W) (fun W h => h.1) _ _ _ _ ?_
            have hH2 : w5.cell? ⟨wr.heap.size, 1, none⟩ = some (.int .i64 n) ∧ (convert 33 9 o5).run Try.prog w5 = .ok (.string sK) w5 := ⟨s5, t5⟩
            refine wpAnyH_take (i := 4) (v := ?_) rfl (by kernel_rfl) (by kernel_rfl) (by kernel_rfl) (fun _ _ _ h => h) (Or.inl ⟨by rfl, ?_⟩) (by assumption) ?_
            rotate_left
            · (intro w hSw; (try dsimp only at hSw); go_simp; try with_reducible rfl)
            simp only [List.getElem_toArray, List.getElem_cons_zero, List.getElem_cons_succ, Act.put, List.setIfInBounds_toArray, List.set_cons_zero, List.set_cons_succ]
            refine wpAnyH_ready (rs := [8]) (by kernel_rfl) (by simp) ?_
            refine AllReadyH.cons rfl (fun K hK => ?_) AllReadyH.nil
            go_simp
            refine (rpeek_any R5.out n).mono ?_
            rintro e w6 ⟨o6, rfl, F6, O6⟩
            have z6 : w5.heap.size ≤ w6.heap.size := F6.size
            have s6 : w6.cell? ⟨wr.heap.size, 1, none⟩ = some (.int .i64 n) := by rw [cell_of (F6.hd (fun x => x) n5.out)]; rfl
            have t6 := O6.sl.text
            rw [HsK.out] at t6
            have u6 := (SS5.out.cellsEq (W' := w6) (fun b off n c e hn => F6.block b (LL5.out b off n c e hn).2 (fun x => x))).text
            rw [HsK.out] at u6
            have uq : ∀ q, (convert 33 9 o5).run Try.prog (w6.drewN q) = .ok (.string sK) (w6.drewN q) := fun q => by have h := (SS5.out.cellsEq (W' := w6.drewN q) (fun b off n c e hn => F6.block b (LL5.out b off n c e hn).2 (fun x => x))).text; rw [HsK.out] at h; exact h
            have C6 := hide (C5.out.frame F6 (fun x => x) (fun x => x))
            have R6 := hide (R5.out.frame F6 (fun x => x) (fun _ _ x => x))
            have F06 : Hid (Fr (fun i => w.heap.size ≤ i) w w6) := hide (F05.out.trans F6 (fun _ _ x => x.elim))
            clear F6 O6
            go_wp2_with fail
            refine hK.out _ _ ⟨s6, u6⟩ (fun hHeld => ?_)
            clear hK K
            try simp only [List.getElem_toArray, List.getElem_cons_zero, List.getElem_cons_succ, Act.put, List.setIfInBounds_toArray, List.set_cons_zero, List.set_cons_succ]
            refine wpAnyH_ready (rs := [9]) (by kernel_rfl) (by simp) ?_
            refine AllReadyH.cons rfl (fun K hK => ?_) AllReadyH.nil
            go_simp
            refine hK.out _ _ ⟨s6, u6⟩ (fun hHeld => ?_)
            clear hK K
            try simp only [List.getElem_toArray, List.getElem_cons_zero, List.getElem_cons_succ, Act.put, List.setIfInBounds_toArray, List.set_cons_zero, List.set_cons_succ]
            refine wpAnyH_take (i := 10) (v := ?_) rfl (by kernel_rfl) (by kernel_rfl) (by kernel_rfl) (fun _ _ _ h => h) (Or.inl ⟨by rfl, ?_⟩) (by assumption) ?_
            rotate_left
            · (intro w hSw; (try dsimp only at hSw); go_simp; try with_reducible rfl)
            simp only [List.getElem_toArray, List.getElem_cons_zero, List.getElem_cons_succ, Act.put, List.setIfInBounds_toArray, List.set_cons_zero, List.set_cons_succ]
            refine wpAnyH_take (i := 11) (v := ?_) rfl (by kernel_rfl) (by kernel_rfl) (by kernel_rfl) (fun _ _ _ h => h) (Or.inl ⟨by rfl, ?_⟩) (by assumption) ?_
            rotate_left
            · (intro w hSw; (try dsimp only at hSw); go_simp; try with_reducible rfl)
            simp only [List.getElem_toArray, List.getElem_cons_zero, List.getElem_cons_succ, Act.put, List.setIfInBounds_toArray, List.set_cons_zero, List.set_cons_succ]
            refine wpAnyH_take (i := 12) (v := ?_) rfl (by kernel_rfl) (by kernel_rfl) (by kernel_rfl) (fun _ _ _ h => h) (Or.inl ⟨by rfl, ?_⟩) (by assumption) ?_
            rotate_left
            · (intro w hSw; (try dsimp only at hSw); go_simp; try with_reducible rfl)
            simp only [List.getElem_toArray, List.getElem_cons_zero, List.getElem_cons_succ, Act.put, List.setIfInBounds_toArray, List.set_cons_zero, List.set_cons_succ]
            refine wpAnyH_take (i := 13) (v := ?_) rfl (by kernel_rfl) (by kernel_rfl) (by kernel_rfl) (fun _ _ _ h => h) (Or.inl ⟨by rfl, ?_⟩) (by assumption) ?_
            rotate_left
            · (intro w hSw; (try dsimp only at hSw); go_simp; try with_reducible rfl)
            simp only [List.getElem_toArray, List.getElem_cons_zero, List.getElem_cons_succ, Act.put, List.setIfInBounds_toArray, List.set_cons_zero, List.set_cons_succ]
            refine wpAnyH_take (i := 14) (v := ?_) rfl (by kernel_rfl) (by kernel_rfl) (by kernel_rfl) (fun _ _ _ h => h) (Or.inl ⟨by rfl, ?_⟩) (by assumption) ?_
            rotate_left
            · (intro w hSw; (try dsimp only at hSw); go_simp; try with_reducible rfl)
            simp only [List.getElem_toArray, List.getElem_cons_zero, List.getElem_cons_succ, Act.put, List.setIfInBounds_toArray, List.set_cons_zero, List.set_cons_succ]
            refine wpAnyH_take (i := 15) (v := ?_) rfl (by kernel_rfl) (by kernel_rfl) (by kernel_rfl) (fun _ _ _ h => h) (Or.inl ⟨by rfl, ?_⟩) (by assumption) ?_
            rotate_left
            · (intro w hSw; (try dsimp only at hSw); go_simp; try with_reducible rfl)
            simp only [List.getElem_toArray, List.getElem_cons_zero, List.getElem_cons_succ, Act.put, List.setIfInBounds_toArray, List.set_cons_zero, List.set_cons_succ]
            refine wpAnyH_take (i := 17) (v := ?_) rfl (by kernel_rfl) (by kernel_rfl) (by kernel_rfl) (fun _ _ _ h => h) (Or.inl ⟨by rfl, ?_⟩) (by assumption) ?_
            rotate_left
            · (intro w hSw; (try dsimp only at hSw); go_simp; try with_reducible rfl)
            simp only [List.getElem_toArray, List.getElem_cons_zero, List.getElem_cons_succ, Act.put, List.setIfInBounds_toArray, List.set_cons_zero, List.set_cons_succ]
            refine wpAnyH_take (i := 18) (v := ?_) rfl (by kernel_rfl) (by kernel_rfl) (by kernel_rfl) (fun _ _ _ h => h) (Or.inl ⟨by rfl, ?_⟩) (by assumption) ?_
            rotate_left
            · (intro w hSw; (try dsimp only at hSw); go_simp; try with_reducible rfl)
            simp only [List.getElem_toArray, List.getElem_cons_zero, List.getElem_cons_succ, Act.put, List.setIfInBounds_toArray, List.set_cons_zero, List.set_cons_succ]
            refine wpAnyH_take (i := 19) (v := ?_) rfl (by kernel_rfl) (by kernel_rfl) (by kernel_rfl) (fun _ _ _ h => h) (Or.inl ⟨by rfl, ?_⟩) (by assumption) ?_
            rotate_left
            · (intro w hSw; (try dsimp only at hSw); go_simp; try with_reducible rfl)
            simp only [List.getElem_toArray, List.getElem_cons_zero, List.getElem_cons_succ, Act.put, List.setIfInBounds_toArray, List.set_cons_zero, List.set_cons_succ]
            refine wpAnyH_take (i := 20) (v := ?_) rfl (by kernel_rfl) (by kernel_rfl) (by kernel_rfl) (fun _ _ _ h => h) (Or.inl ⟨by rfl, ?_⟩) (by assumption) ?_
            rotate_left
            · (intro w hSw; (try dsimp only at hSw); go_simp; try with_reducible rfl)
            simp only [List.getElem_toArray, List.getElem_cons_zero, List.getElem_cons_succ, Act.put, List.setIfInBounds_toArray, List.set_cons_zero, List.set_cons_succ]
            refine wpAnyH_ready (rs := [16]) (by kernel_rfl) (by simp) ?_
            refine AllReadyH.cons rfl (fun K hK => ?_) AllReadyH.nil
            go_simp
            refine (find_any C6.out HB.out _ (wrap_byte n)).mono ?_
            rintro e w7 ⟨rfl, q7, hq7⟩
            have F7 : Fr (fun _ => False) w6 w7 := hq7 ▸ Fr.drewN _ _ _
            have z7 : w6.heap.size ≤ w7.heap.size := F7.size
            have s7 : w7.cell? ⟨wr.heap.size, 1, none⟩ = some (.int .i64 n) := by rw [← hq7]; exact s6
            have u7 : (convert 33 9 o5).run Try.prog w7 = .ok (.string sK) w7 := by rw [← hq7]; exact uq q7
            have C7 := hide (C6.out.frame F7 (fun x => x) (fun x => x))
            have R7 := hide (R6.out.frame F7 (fun x => x) (fun _ _ x => x))
            have F07 : Hid (Fr (fun i => w.heap.size ≤ i) w w7) := hide (F06.out.trans F7 (fun _ _ x => x.elim))
            clear F7 hq7
            go_wp2_with fail
            refine hK.out _ _ ⟨s7, u7⟩ (fun hHeld => ?_)
            clear hK K
            try simp only [List.getElem_toArray, List.getElem_cons_zero, List.getElem_cons_succ, Act.put, List.setIfInBounds_toArray, List.set_cons_zero, List.set_cons_succ]
            refine wpAnyH_ready (rs := [21]) (by kernel_rfl) (by simp) ?_
            refine AllReadyH.cons rfl (fun K hK => ?_) AllReadyH.nil
            go_simp
            refine (rfind_any R7.out _).mono ?_
            rintro e w8 ⟨rfl, rfl⟩
            go_wp2_with fail
            refine hK.out _ _ ⟨s7, u7⟩ (fun hHeld => ?_)
            clear hK K
            try simp only [List.getElem_toArray, List.getElem_cons_zero, List.getElem_cons_succ, Act.put, List.setIfInBounds_toArray, List.set_cons_zero, List.set_cons_succ]
            refine wpAnyH_take (i := 22) (v := ?_) rfl (by kernel_rfl) (by kernel_rfl) (by kernel_rfl) (fun _ _ _ h => h) (Or.inl ⟨by rfl, ?_⟩) (by assumption) ?_
            rotate_left
            · (intro w hSw; (try dsimp only at hSw); go_simp; try with_reducible rfl)
            simp only [List.getElem_toArray, List.getElem_cons_zero, List.getElem_cons_succ, Act.put, List.setIfInBounds_toArray, List.set_cons_zero, List.set_cons_succ]
            refine wpAnyH_take (i := 23) (v := ?_) rfl (by kernel_rfl) (by kernel_rfl) (by kernel_rfl) (fun _ _ _ h => h) (Or.inl ⟨by rfl, ?_⟩) (by assumption) ?_
            rotate_left
            · (intro w hSw; (try dsimp only at hSw); go_simp; try with_reducible rfl)
            simp only [List.getElem_toArray, List.getElem_cons_zero, List.getElem_cons_succ, Act.put, List.setIfInBounds_toArray, List.set_cons_zero, List.set_cons_succ]
            have HI2 : Hid (SInv w bound high low w7) := hide ⟨L, stop, r, v, F07.out, C7.out, by omega, by omega, by omega, R7.out, by omega, HSP.out, HB.out, HD.out⟩
            refine wpAnyH_done (by kernel_rfl) ?_ _
            refine NoPanic.normal ?_
            obtain ⟨L2, stop2, r2, v2, -, G2, -, -, -, G6, -, -, -, -⟩ := HI2.out
            obtain ⟨a2, c2', e2, -⟩ := G6.own.sl.shape
            subst e2
            have d0 := G6.hd.c0
            have d3 := G6.hd.c3
            have d4 := G6.hd.c4
            have l2b : L2.length ≤ bound := G2.fits
            have b2b : bound ≤ 1048576 := M.out.h3
            have LQ : Hid (∀ q, Calls Try.prog 20 #[.pointer (some ⟨w.heap.size + 1, 0, none⟩)] (w7.drewN q) fun e w' => e = .returned (.int .i64 (L2.length : Int)) ∧ w' = w7.drewN q) := hide (fun q => (len_chain (G2.drewN q)).mono (fun e w' h => ⟨h.1, h.2.symm⟩))
            have SQ : Hid (∀ q, Calls Try.prog 22 #[.pointer (some ⟨w.heap.size + 1, 0, none⟩)] (w7.drewN q) fun e w' => e = .returned (.bool stop2) ∧ w' = w7.drewN q) := hide (fun q => (stopped_chain (G2.drewN q)).mono (fun e w' h => ⟨h.1, h.2.symm⟩))
            have RQ : Hid (∀ q, Calls Try.prog 21 #[.pointer (some ⟨w.heap.size + 1, 0, none⟩)] (w7.drewN q) fun e w' => e = .returned (.int .i64 ((bound : Int) - L2.length)) ∧ ∃ m, w' = w7.drewN m) := hide (fun q => (room_chain (G2.drewN q)).mono (fun e w' h => ⟨h.1, by obtain ⟨m, hm⟩ := h.2; exact ⟨q + m, by rw [← hm]; simp⟩⟩))
            clear G2 G6
            go_wp2_with fail
            go_quiet ((first | (go_at_call 20; exact Calls.quiet_of_same (LQ.out _)) | (go_at_call 21; exact RQ.out _) | (go_at_call 22; exact Calls.quiet_of_same (SQ.out _))))
            go_wp2
            go_roundw
            case rel => exact ⟨j + 1, by omega, by go_num, hide (HI2.out.drewN _)⟩
            case measure => simp [intOf]; omega
    · have ej : j = len := by omega
      subst ej
      obtain ⟨L, stop, r, v, F, -⟩ := HI.out
      have HF := hide F
      clear F HI I1
      go_wp2_with (go_at_call 10; refine (speaks_any _).mono ?_; rintro e w10 ⟨rfl, F10⟩)
      go_ret
      exact ⟨rfl, (HF.out.trans F10 (fun _ _ x => x.elim)).below (Nat.le_refl _) (fun k hk x => by omega)⟩
end Go.Proofs.Ytglhoihiaflmgab
