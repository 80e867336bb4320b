/- The document's pool: what rests too long is let go. -/
import Derived.Test.YtgeneknaekoinaaURf9
namespace Go.Proofs.Ytgeneknaekoinaa
open Go.ChangeShapes Go.WideShapes Go.ChangeAt Go.RowKit
set_option linter.unusedVariables false

def rxB (p : Rm) (now : Int) (r : Cn) : Bool := (r.st == 3) && decide (rendI p r ≤ now)
def rxO (r : Cn) : Ac := ⟨5, r.n, -1⟩
def rxC (p : Rm) (now : Int) (L : List Cn) : List Ac := (L.filter (rxB p now)).map rxO
theorem rxC_len (p : Rm) (now : Int) (L : List Cn) : (rxC p now L).length ≤ L.length := by unfold rxC; rw [List.length_map]; exact List.length_filter_le _ _
theorem rxC_snoc {p : Rm} {now : Int} {L : List Cn} {k : Nat} {r : Cn} (h : L[k]? = some r) : rxC p now (L.take (k + 1)) = if rxB p now r then rxC p now (L.take k) ++ [rxO r] else rxC p now (L.take k) := by
  unfold rxC
  rw [filter_snoc h]
  split <;> simp
def cuts (p : Rm) (A : List Ac) : Rm := A.foldl (fun q a => cutP q a.c) p
theorem cuts_snoc {p : Rm} {A : List Ac} {k : Nat} {a : Ac} (h : A[k]? = some a) : cuts p (A.take (k + 1)) = cutP (cuts p (A.take k)) a.c := by
  unfold cuts
  rw [List.take_add_one, h]
  simp
theorem erI_nodup {c : Int} {S : List Int} (h : S.Nodup) : (erI c S).Nodup := by
  unfold erI
  split
  · exact h.sublist (List.eraseIdx_sublist _ _)
  · exact h
theorem cuts_ok : ∀ (A : List Ac) {p : Rm} {K : Int}, QOk p K → p.S.Nodup → QOk (cuts p A) K ∧ (cuts p A).S.Nodup ∧ (cuts p A).cap = p.cap ∧ (cuts p A).Q = p.Q ∧ (cuts p A).pend = p.pend
  | [], p, K, h, hd => ⟨h, hd, rfl, rfl, rfl⟩
  | a :: A, p, K, h, hd => by
    have := cuts_ok A (h.cut hd a.c) (erI_nodup hd)
    exact this
theorem ract_cells {w : World} {v : Value} {L : List Ac} (h : Rw 64 3 w v L.length (fl encA L)) {i : Nat} {r : Ac} (hr : L[i]? = some r) : ∃ g off cap, v = .slice (some ⟨g, off, none⟩) L.length cap ∧ L.length ≤ cap ∧ cap ≤ 9223372036854775807 ∧ w.cell? ⟨g, off + i * 3, none⟩ = some (.int .i64 r.k) ∧ w.cell? ⟨g, off + i * 3 + 1, none⟩ = some (.int .i64 r.c) ∧ w.cell? ⟨g, off + i * 3 + 2, none⟩ = some (.int .i64 r.w) := by
  have hi : i < L.length := (List.getElem?_eq_some_iff.1 hr).1
  obtain ⟨g, off, cap, e, h1, h2, h3, h4, h5⟩ := h.at hi
  have k : ∀ j, j < 3 → w.cell? ⟨g, off + i * 3 + j, none⟩ = some (.int .i64 ((encA r).getD j 0)) := fun j hj => by
    rw [h3 j hj, fl_at (show ∀ a, (encA a).length = 3 from fun _ => rfl) L i j r hr hj]
  exact ⟨g, off, cap, e, h1, h2, k 0 (by omega), k 1 (by omega), k 2 (by omega)⟩
def rxE (now : Int) : Int := if mom now then 0 else 1
def rx1 (p : Rm) (now : Int) : Rm := cuts p (rxC p now p.L)
def rxA (p : Rm) (now : Int) : List Ac := if mom now then rxC p now p.L ++ rvA (rx1 p now) now else []
def rxP (p : Rm) (now : Int) : Rm := if mom now then rvP (rx1 p now) now else p
set_option maxHeartbeats 1000000 in
set_option maxRecDepth 100000 in
theorem rexpire_any (p : Rm) (b : Nat) (w : World) (P : Nat → Prop) (now M : Int) (h : QX p b w P) (k0 : QOk p (M - p.Q.length)) (hd : p.S.Nodup) (hM : M < 9223372036854775806) (hc : p.cap ≤ 64) :
    Calls Try.prog 29 #[.pointer (some ⟨b, 0, none⟩), .int .i64 now] w fun e w' => ∃ v, e = .returned (.tuple #[v, .int .i64 (rxE now)]) ∧ Does (Two (RB v (rxA p now)) (QX (rxP p now) b)) P w w' := by
  have h64 := k0.len
  have hq64 := k0.wait
  have HM := hide (rmom_any now w)
  cases hm : mom now with
  | false =>
    have e0 : rxE now = 1 := by unfold rxE; rw [hm]; rfl
    have e2 : rxA p now = [] := by unfold rxA; rw [hm]; rfl
    have e3 : rxP p now = p := by unfold rxP; rw [hm]; rfl
    rw [e0, e2, e3]
    rw [hm] at HM
    have T := hide (Does.refl h).nilRB
    clear h e0 e2 e3 k0 hm hd hc
    go_enter Try.func29, Try.ntmps29
    go_wp2_with (first | (go_at_call 20; refine HM.out.mono ?_; rintro e w' ⟨rfl, rfl⟩))
    go_ret2
    exact ⟨_, rfl, T.out⟩
  | true =>
    have e0 : rxE now = 0 := by unfold rxE; rw [hm]; rfl
    have e2 : rxA p now = rxC p now p.L ++ rvA (rx1 p now) now := by unfold rxA; rw [hm]; rfl
    have e3 : rxP p now = rvP (rx1 p now) now := by unfold rxP; rw [hm]; rfl
    rw [e0, e2, e3]
    rw [hm] at HM
    obtain ⟨vl, vs, vw, h⟩ := h
    have T0 : Hid (Does (Two (RB (.slice none 0 0) (rxC p now (p.L.take 0))) (QT p b vl vs vw)) P w w) := hide (Does.refl h).nilRB
    have HMM := hide hm
    have HK := hide k0
    have HKE := hide (fun A => cuts_ok A k0 hd)
    have HC := hide hc
    obtain ⟨c0, c1, c2, c3, c4, c5, c6, c7⟩ := h.v.c
    obtain ⟨la, lc, rfl, hc0, hc1⟩ := h.v.L.shape
    have HCL := hide (fun k => rxC_len p now (p.L.take k))
    clear h e0 e2 e3 k0 hm hd hc
    obtain ⟨n, Hn⟩ : ∃ n, Hid (p.L.length = n) := ⟨_, hide rfl⟩
    rw [Hn.out] at h64 c5 hc0 T0
    go_enter Try.func29, Try.ntmps29
    go_wp2_with (first | (go_at_call 20; refine HM.out.mono ?_; rintro e w' ⟨rfl, rfl⟩))
    clear c0 c1 c2 c3 c4 c5 c6 c7
    go_loopw [6, 19] (fun s u wr => ∃ k : Nat, k ≤ n ∧ u = .int .i64 (k : Int) ∧ Hid (Does (Two (RB s (rxC p now (p.L.take k))) (QT p b (.slice la n lc) vs vw)) P w wr)) (fun _ u _ => n - (intOf u).toNat)
    case atStart => exact ⟨0, Nat.zero_le _, rfl, T0⟩
    case round =>
      clear T0
      obtain ⟨k, hk, rfl, HI⟩ := hrel
      obtain ⟨sa, sl, sc, rfl, Hsl⟩ : ∃ a n cap, u6 = .slice a n cap ∧ Hid ((rxC p now (p.L.take k)).length = n) := by obtain ⟨_, y⟩ := HI.out.fst_of; obtain ⟨a, c, e, _⟩ := y.1.shape; exact ⟨a, _, c, e, hide rfl⟩
      have hsl : sl ≤ 64 := by
        have h1 := HCL.out k
        rw [Hsl.out, List.length_take] at h1
        omega
      by_cases hlt : k < n
      · have hkl : k < p.L.length := by rw [Hn.out]; exact hlt
        have hr := get_ok hkl
        have HSC := hide (rxC_snoc (p := p) (now := now) hr)
        obtain ⟨⟨b0, b1⟩, ⟨s0, s1⟩⟩ := HK.out.rows _ (List.mem_of_getElem? hr)
        obtain ⟨_, x⟩ := HI.out.snd_of
        obtain ⟨g1, off, cap1, e, -, -, r0, r1, r2, r3, r4, -⟩ := con_cells x.v.L hr
        simp only [Value.slice.injEq] at e
        obtain ⟨rfl, -, rfl⟩ := e
        generalize p.L[k] = r at *
        clear hr hkl x
        have T1 := hide (HI.out.new (cnO r))
        unfold cnO at T1
        go_upto_region 7 with fail
        clear r0 r1 r2 r3 r4 HI
        generalize wr.alloc _ = w1 at *
        generalize wr.heap.size = gg at *
        obtain ⟨_, y⟩ := T1.out.fst_of
        obtain ⟨e0, e1, e2, e3, e4⟩ := cn_cells y.1
        obtain ⟨_, x⟩ := T1.out.snd_of
        obtain ⟨_, _, _, x, -, -⟩ := x
        have HG := hide (rend_any p b _ _ vw w1 r x.v HK.out.life0 HK.out.life1 HK.out.idle0 HK.out.idle1 b0 b1 s0 s1)
        unfold cnV at HG
        clear x y
        by_cases hst : r.st = 3
        · have HXB : Hid (rxB p now r = decide (rendI p r ≤ now)) := hide (by unfold rxB; rw [hst]; simp)
          rw [hst] at e1 HG
          clear hst
          generalize rendI p r = en at *
          go_wp2_with fail
          refine HG.out.mono ?_
          rintro e w2 ⟨rfl, F2⟩
          have T2 := hide (T1.out.e F2)
          clear F2 HG T1 e0 e1 e2 e3 e4
          obtain ⟨_, y⟩ := T2.out.fst_of
          obtain ⟨e0, e1, e2, e3, e4⟩ := cn_cells y.1
          clear y
          have T3 := hide T2.out.snd
          clear T2
          by_cases hen : en ≤ now
          · have hen2 : decide (en ≤ now) = true := decide_eq_true hen
            rw [HXB.out, hen2, if_pos rfl] at HSC
            have HS : Hid (Rw 64 3 w2 (.slice sa sl sc) sl (fl encA (rxC p now (p.L.take k)))) := by obtain ⟨_, x⟩ := T3.out.fst_of; exact hide (by have := x.1; rw [Hsl.out] at this; exact this)
            clear HXB
            go_wp2_with (at_builtin; apply Hid.out)
            unfold Hid
            refine wpList_append_rw infRac rfl _ _ rfl w2 (.slice sa sl sc) sl _ (encA (rxO r)) rfl (by simp [Act.eval, go_sem]) HS.out rfl (by omega) (by omega) ?_
            intro v' W6 q1 F o
            have T6 : Hid (Does (Two (RB v' (rxC p now (p.L.take (k + 1)))) (QT p b (.slice (some ⟨g1, off, none⟩) n lc) vs vw)) P w W6) := hide (by
              rw [HSC.out]
              exact T3.out.left (fun _ y => y.app (by rw [fl_app, List.length_append, Hsl.out]; exact q1) F o))
            clear q1 F o HS T3 e0 e1 e2 e3 e4
            go_wp2_with fail
            go_roundw
            case rel => exact ⟨k + 1, by omega, by go_num, T6⟩
            case measure => simp [intOf]; omega
          · have hen2 : decide (en ≤ now) = false := decide_eq_false hen
            rw [HXB.out, hen2, if_neg (by simp)] at HSC
            rw [← HSC.out] at T3
            clear HXB
            go_wp2_with fail
            go_roundw
            case rel => exact ⟨k + 1, by omega, by go_num, T3⟩
            case measure => simp [intOf]; omega
        · have hs2 : (r.st == 3) = false := by simpa using hst
          have HXB : rxB p now r = false := by unfold rxB; rw [hs2]; rfl
          rw [HXB, if_neg (by simp)] at HSC
          have T3 := hide T1.out.snd
          rw [← HSC.out] at T3
          clear HXB HG T1 hst
          go_wp2_with fail
          go_roundw
          case rel => exact ⟨k + 1, by omega, by go_num, T3⟩
          case measure => simp [intOf]; omega
      · obtain rfl : k = n := by omega
        have etk : p.L.take k = p.L := by rw [← Hn.out]; exact List.take_length
        rw [etk] at HI Hsl
        clear etk
        obtain ⟨A, HAe⟩ : ∃ A, Hid (rxC p now p.L = A) := ⟨_, hide rfl⟩
        have HR1 : Hid (rx1 p now = cuts p A) := hide (by unfold rx1; rw [HAe.out])
        have Hsl2 := hide Hsl.out
        have HLE : Hid ((rvA (rx1 p now) now).length ≤ 64) := hide (Nat.le_trans (rv_len _ rfl) (by rw [HR1.out, (HKE.out A).2.2.2.1]; exact hq64))
        have HK2 : Hid (QOk (rx1 p now) (M - (rx1 p now).Q.length)) := hide (by rw [HR1.out, (HKE.out A).2.2.2.1]; exact (HKE.out A).1)
        have HC2 : Hid ((rx1 p now).cap ≤ 64) := hide (by rw [HR1.out, (HKE.out A).2.2.1]; exact HC.out)
        rw [HAe.out] at HI Hsl
        have T0 : Hid (Does (Two (RB (.slice sa sl sc) A) (QX (cuts p (A.take 0)) b)) P w wr) := hide (HI.out.right (fun _ z => (Does.refl z).qx))
        clear HI
        go_wp2_with fail
        go_loopw [42] (fun u wr => ∃ j : Nat, j ≤ sl ∧ u = .int .i64 (j : Int) ∧ Hid (Does (Two (RB (.slice sa sl sc) A) (QX (cuts p (A.take j)) b)) P w wr)) (fun u _ => sl - (intOf u).toNat)
        case atStart => exact ⟨0, Nat.zero_le _, rfl, T0⟩
        case round =>
          clear T0
          obtain ⟨j, hj, rfl, HI⟩ := hrel
          by_cases hjl : j < sl
          · have hja : j < A.length := by rw [Hsl.out]; exact hjl
            have hr := get_ok hja
            have HSC := hide (cuts_snoc (p := p) hr)
            obtain ⟨_, x⟩ := HI.out.fst_of
            obtain ⟨g1, off, cap1, e, hcc0, -, r0, r1, r2⟩ := ract_cells x.1 hr
            rw [Hsl.out] at hcc0
            simp only [Value.slice.injEq] at e
            obtain ⟨rfl, -, rfl⟩ := e
            generalize A[j] = ac at *
            clear hr hja x
            have T1 := hide (HI.out.new (raO ac))
            unfold raO at T1
            go_upto_region 13 with fail
            clear r0 r1 r2 HI
            generalize World.alloc _ _ = w1 at *
            generalize Array.size _ = gg at *
            obtain ⟨_, y⟩ := T1.out.fst_of
            obtain ⟨e0, e1, e2, -⟩ := ra_cells (a := ac) y.1
            clear y
            have T2 := hide T1.out.snd
            obtain ⟨P2, x, hx⟩ := T2.out.focR
            have HFG := hide (cut_any (cuts p (A.take j)) b w1 P2 ac.c x (HKE.out (A.take j)).1.len (HKE.out (A.take j)).1.sen)
            have HX := hide hx
            clear x hx T2 T1
            go_wp2_with fail
            refine HFG.out.mono ?_
            rintro e w2 ⟨rfl, d⟩
            have T3 := hide (HX.out _ _ d)
            rw [← HSC.out] at T3
            clear d HX HFG e0 e1 e2
            go_wp2_with fail
            go_roundw
            case rel => exact ⟨j + 1, by omega, by go_num, T3⟩
            case measure => simp [intOf]; omega
          · obtain rfl : j = sl := by omega
            have T5 : Hid (Does (Two (RB (.slice sa j sc) (rxC p now p.L)) (QX (rx1 p now) b)) P w _) := hide (by
              have := HI.out
              rw [← Hsl.out, List.take_length, Hsl.out, ← HR1.out, ← HAe.out] at this
              exact this)
            clear HI
            obtain ⟨P3, x, hx⟩ := T5.out.focR
            have HSV := hide (rserve_any (rx1 p now) b _ P3 now M x HK2.out hM HMM.out HC2.out)
            have HX := hide hx
            clear x hx T5
            go_wp2_with fail
            refine HSV.out.mono ?_
            rintro e w6 ⟨v6, rfl, d⟩
            have T6 := hide (HX.out _ _ d)
            clear d HX HSV
            obtain ⟨al, Hal⟩ : ∃ al, Hid ((rvA (rx1 p now) now).length = al) := ⟨_, hide rfl⟩
            have HLE2 := HLE.out
            rw [Hal.out] at HLE2
            have HV : Hid (Rw 64 3 w6 (.slice sa j sc) j (fl encA (rxC p now p.L))) := by obtain ⟨_, y⟩ := T6.out.fst_of; exact hide (by have := y.1; rw [Hsl2.out] at this; exact this)
            have HY : Hid (Rw 64 3 w6 v6 al (fl encA (rvA (rx1 p now) now))) := by obtain ⟨_, y⟩ := T6.out.snd_of; obtain ⟨_, _, y1, -⟩ := y; exact hide (by have := y1.1; rw [Hal.out] at this; exact this)
            obtain ⟨sa6, sc6, rfl, s60, s61⟩ := HY.out.shape
            go_wp2_with (at_builtin; apply Hid.out)
            unfold Hid
            refine wpList_append_rwv infRac rfl _ _ rfl w6 (.slice sa j sc) (.slice sa6 al sc6) j al _ _ rfl (by simp [Act.eval, go_sem]) HV.out HY.out (by omega) (by omega) ?_
            intro v' W6 q1 F o
            have T7 := hide (T6.out.onto (A := rxC p now p.L) (by rw [Hal.out, Hsl2.out]; exact q1) F o)
            obtain ⟨sa7, sc7, rfl, -, -⟩ := q1.shape
            clear q1 F o HV HY T6
            go_wp2_with fail
            go_ret2
            exact ⟨_, rfl, T7.out⟩
end Go.Proofs.Ytgeneknaekoinaa
