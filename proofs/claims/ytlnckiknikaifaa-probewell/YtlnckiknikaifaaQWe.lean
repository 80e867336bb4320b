/- ProbeWell, walked. -/
import Derived.Test.YtlnckiknikaifaaQOn
namespace Go.Proofs.Ytlnckiknikaifaa
open Go.ChangeShapes Go.WideShapes Go.ChangeAt Go.RowKit
set_option linter.unusedVariables false

structure WeP (n : Nat) (K : Int) (L : List HR) : Prop where
  n : L.length = n
  r : ∀ r ∈ L, r.h = true ∧ r.t = 0 ∧ 0 ≤ r.f ∧ r.f ≤ K
theorem WeP.mono {n : Nat} {K K' : Int} {L : List HR} (h : WeP n K L) (hk : K ≤ K') : WeP n K' L :=
  ⟨h.n, fun r hr => by have := h.r r hr; exact ⟨this.1, this.2.1, this.2.2.1, by omega⟩⟩
theorem WeP.at {n : Nat} {K : Int} {L : List HR} (h : WeP n K L) {i : Nat} {r : HR} (hr : L[i]? = some r) : r.h = true ∧ r.t = 0 ∧ 0 ≤ r.f ∧ r.f ≤ K := h.r r (List.mem_of_getElem? hr)
theorem WeP.due {n : Nat} {K ev ti m : Int} {L : List HR} (h : WeP n K L) : WeP n K (duL ev ti m L) := by
  refine ⟨by rw [duL_len]; exact h.n, fun r hr => ?_⟩
  obtain ⟨i, hi, rfl⟩ := List.getElem_of_mem hr
  have hl : i < L.length := by rw [duL_len] at hi; exact hi
  have e := mkD_at (m := m) (ti := ti) (l := duN ev m L) (List.getElem?_eq_getElem hl)
  have e2 : (duL ev ti m L)[i]? = some (duL ev ti m L)[i] := List.getElem?_eq_getElem hi
  unfold duL at e2
  rw [e] at e2
  simp only [Option.some.injEq] at e2
  have hh := h.r L[i] (List.getElem_mem hl)
  show (mkD m ti (duN ev m L) L)[i].h = true ∧ _
  rw [show (duL ev ti m L)[i] = (mkD m ti (duN ev m L) L)[i] from rfl, ← e2]
  split
  · exact hh
  · exact hh
theorem WeP.ans {n : Nat} {K ev up dn m : Int} {L : List HR} (h : WeP n K L) {i : Nat} {r : HR} (hr : L[i]? = some r) (hd : 1 ≤ dn) : WeP n (K + 1) (L.set i (anR ev up dn m true r)) := by
  refine ⟨by rw [List.length_set]; exact h.n, fun s hs => ?_⟩
  have h0 := h.at hr
  rcases List.mem_or_eq_of_mem_set hs with x | x
  · have := h.r s x
    exact ⟨this.1, this.2.1, this.2.2.1, by omega⟩
  · subst x
    refine ⟨?_, rfl, ?_, ?_⟩
    · show anH up dn true r = true
      unfold anH ctT
      rw [h0.1]
      simp; omega
    · show 0 ≤ r.f + 1
      omega
    · show r.f + 1 ≤ K + 1
      omega
theorem ansN {up dn : Int} {r : HR} (h : r.h = true) (hd : 1 ≤ dn) : anN up dn true r = 0 := by
  unfold anN ctT
  rw [h]
  simp; omega
theorem nums_lt {p : HR → Bool} {L : List HR} {k : Nat} {x : Int} (h : x ∈ nums p L k) : x < k := by
  obtain ⟨i, r, h1, rfl, _⟩ := mem_nums.1 h
  omega
theorem nums_nodup (p : HR → Bool) (L : List HR) : ∀ k, (nums p L k).Nodup
  | 0 => List.nodup_nil
  | k + 1 => by
    show (nums p L k ++ _).Nodup
    rw [List.nodup_append]
    refine ⟨nums_nodup p L k, ?_, fun a ha b hb e => ?_⟩
    · split
      · split <;> simp
      · simp
    · have := nums_lt ha
      split at hb
      · split at hb
        · simp at hb; omega
        · simp at hb
      · simp at hb
theorem du_nodup (ev m : Int) (L : List HR) : (duN ev m L).Nodup := by
  unfold duN
  split
  · exact List.nodup_nil
  · exact nums_nodup _ _ _
theorem du_len (ev m : Int) (L : List HR) : (duN ev m L).length ≤ L.length := by
  unfold duN
  split
  · simp
  · exact nums_len _ _ _
/-- The probes from the j-th of the list on run. -/
def Runs (l : List Int) (j : Nat) (L : List HR) : Prop := ∀ j', j ≤ j' → j' < l.length → ∃ i r, l.getD j' 0 = ((i : Nat) : Int) ∧ L[i]? = some r ∧ r.e = true
theorem Runs.due (ev ti m : Int) (L : List HR) : Runs (duN ev m L) 0 (duL ev ti m L) := by
  intro j' _ hj
  have hm : (duN ev m L).getD j' 0 ∈ duN ev m L := by rw [List.getD_eq_getElem?_getD, List.getElem?_eq_getElem hj]; exact List.getElem_mem hj
  have hm2 := hm
  unfold duN at hm
  split at hm
  · simp at hm
  · rename_i he
    obtain ⟨i, r, h1, h2, h3, h4⟩ := mem_nums.1 hm
    have e1 : duN ev m L = nums (comP false m) L L.length := by unfold duN; rw [if_neg he]
    have h2' : (duN ev m L).getD j' 0 = (i : Int) := by rw [e1]; exact h2
    refine ⟨i, stR m ti r, h2', ?_, rfl⟩
    unfold duL
    rw [mkD_at h3, if_pos (by rw [← h2']; exact hm2)]
theorem Runs.ans {l : List Int} {j : Nat} {L : List HR} (h : Runs l j L) (hn : l.Nodup) (hj : j < l.length) {i : Nat} (hi : l.getD j 0 = (i : Int)) (z : HR) : Runs l (j + 1) (L.set i z) := by
  intro j' h1 h2
  obtain ⟨i', r, h3, h4, h5⟩ := h j' (by omega) h2
  refine ⟨i', r, h3, ?_, h5⟩
  rw [List.getElem?_set_ne, h4]
  intro e
  subst e
  rw [← h3] at hi
  have e1 : l[j] = l[j'] := by simpa [List.getD, hj, h2] using hi
  exact (List.pairwise_iff_getElem.1 hn) j j' hj h2 (by omega) e1

set_option maxHeartbeats 8000000 in
set_option maxRecDepth 100000 in
theorem well_walk (n ev ti up dn : Int) (ad : Option Addr) (len cap : Nat) (W : World) (hlen : len < 17592186044417)
    (hst : Hid (∀ i, i < len → ∃ b off, ∃ (x0 : Int), ad = some ⟨b, off, none⟩ ∧ (W.cell? ⟨b, off + i, none⟩ = some (.int .i64 x0)) ∧ b < W.heap.size ∧ (-9223372036854775808 ≤ x0 ∧ x0 ≤ 9223372036854775807))) :
    Calls Try.prog 6 #[.int .i64 n, .agg #[.int .i64 ev, .int .i64 ti, .int .i64 up, .int .i64 dn], .slice ad len cap] W fun e w' => e = .returned (.bool true) ∧ Below W.heap.size W w' := by
  by_cases hA : 1 ≤ n ∧ n ≤ 16 ∧ okA ev ti up dn = true
  · obtain ⟨n', rfl⟩ := Int.eq_ofNat_of_zero_le (show 0 ≤ n by have := hA.1; omega)
    have HN := hide (fun V => new_any V n' ev ti up dn 0 (by have := hA.1; omega) (by have := hA.2.1; omega) hA.2.2 (by decide))
    obtain ⟨e0, e1, i0, i1, q0⟩ : 0 ≤ ev ∧ ev ≤ 1000000 ∧ 1 ≤ ti ∧ ti ≤ 1000000 ∧ 1 ≤ dn := by have := hA.2.2; simp [okA] at this; omega
    have hn16 : n' ≤ 16 := by have := hA.2.1; omega
    clear hA
    have W0 : Hid (WeP n' 0 (List.replicate n' (zn 0))) := hide ⟨by simp, fun r hr => by have := List.eq_of_mem_replicate hr; subst this; simp [zn]⟩
    go_enter Try.func6, Try.ntmps6
    go_wp2_with fail
    have T0 : Hid (Top (Two (Blk W.heap.size (askO ev ti up dn)) Nil) W (W.alloc (askO ev ti up dn))) := hide ((Top.nil W).put (Blk.new W _))
    generalize W.alloc (askO ev ti up dn) = W1 at T0 ⊢
    obtain ⟨a, Ha⟩ : ∃ a, Hid (W.heap.size = a) := ⟨_, hide rfl⟩
    rw [Ha.out] at T0 ⊢
    refine (HN.out W1).mono ?_
    rintro e w1 ⟨b, g, rfl, d⟩
    have T1 : Hid (Top (Two (Hs ev ti up dn 0 (List.replicate n' (zn 0)) b g) (Two (Blk a (askO ev ti up dn)) Nil)) W w1) := hide (T0.out.put d)
    clear d T0 HN
    go_wp2_with fail
    go_loopw [9, 38] (fun u9 v wr => ∃ (k : Nat) (now la : Int) (L : List HR), k ≤ len ∧ v = .int .i64 (k : Int) ∧ u9 = .int .i64 now ∧ (0 ≤ now ∧ now ≤ 1152921504616846976) ∧ Hid (0 ≤ la ∧ la ≤ now) ∧ Hid (WeP n' (16 * (k : Int)) L) ∧ Hid (Top (Two (Hs ev ti up dn la L b g) (Two (Blk a (askO ev ti up dn)) Nil)) W wr)) (fun _ v _ => len - (intOf v).toNat)
    case atStart => exact ⟨0, 0, 0, _, Nat.zero_le _, rfl, rfl, by omega, hide (by omega), W0, T1⟩
    case round =>
      clear T1 W0
      obtain ⟨k, now, la, L, hk, rfl, rfl, ⟨n0, n1⟩, HL, HP, HI⟩ := hrel
      by_cases hlt : k < len
      · obtain ⟨b2, off, d, rfl, hc, hb, x0, x1⟩ := hst.out k hlt
        have c9 : wr.cell? ⟨b2, off + k, none⟩ = some (.int .i64 d) := (World.cell?_of_block (HI.out.fr.block b2 hb id)).trans hc
        clear hc hst
        go_upto_region 8 with fail
        go_cut [38, 51] from 38 to 89 (fun v c wc => v = .int .i64 (k : Int) ∧ wr = wc ∧ c = .bool (decide (0 ≤ d ∧ d ≤ 10000000 ∧ now < 1152921504606846976)))
        case first =>
          go_wp2_with fail
          all_goals go_meet
          all_goals exact ⟨rfl, rfl, congrArg Value.bool (by first | rfl | (apply decide_eq_decide.2; omega) | (simp; omega))⟩
        case rest =>
        obtain ⟨rfl, rfl, rfl⟩ := hcut
        obtain ⟨cc, Hcc⟩ : ∃ cc, Hid (decide (0 ≤ d ∧ d ≤ 10000000 ∧ now < 1152921504606846976) = cc) := ⟨_, hide rfl⟩
        rw [Hcc.out]
        go_upto_if 51 with fail
        go_cut [9, 38] from 38 to 89 (fun u v wc => v = .int .i64 (k : Int) ∧ wr = wc ∧ ∃ nw : Int, u = .int .i64 nw ∧ now ≤ nw ∧ nw ≤ 1152921504616846976)
        case first =>
          cases cc with
          | true =>
            obtain ⟨y0, y1, y2⟩ := of_decide_eq_true Hcc.out
            go_wp2_with fail
            go_meet
            exact ⟨rfl, rfl, _, rfl, by omega, by omega⟩
          | false =>
            go_wp2_with fail
            go_meet
            exact ⟨rfl, rfl, _, rfl, by omega, by omega⟩
        case rest =>
        obtain ⟨rfl, rfl, nw, rfl, w0, w1⟩ := hcut
        clear c9 Hcc
        have hmn : mom nw = true := mom_yes (by omega) (by omega)
        have hla := mx_le (show la ≤ nw by have := HL.out.2; omega)
        obtain ⟨P, x, kk⟩ := HI.out.at0
        have HD := hide (due_any wr P ev ti up dn la nw L b g x (by rw [HP.out.n]; exact hn16) hmn HL.out.1 (by have := HL.out.2; omega) (by omega) i1)
        have HK := hide kk
        have HW : Hid (WeP n' (16 * (k : Int)) (duL ev ti nw L)) := hide HP.out.due
        have HU := hide (Runs.due ev ti nw L)
        have HO := hide (du_nodup ev nw L)
        have hcn : (duN ev nw L).length ≤ n' := by have := du_len ev nw L; rw [HP.out.n] at this; exact this
        clear x kk HI HL HP
        rw [hla] at HD
        clear hla
        generalize duN ev nw L = l at *
        generalize duL ev ti nw L = L2 at *
        obtain ⟨cn, Hcn⟩ : ∃ cn, Hid (l.length = cn) := ⟨_, hide rfl⟩
        rw [Hcn.out] at hcn
        go_wp2_with fail
        refine HD.out.mono ?_
        rintro e w2 ⟨v, rfl, d2⟩
        obtain ⟨a2, cap2, rfl, q2, q3⟩ : ∃ a cap, v = .slice a l.length cap ∧ l.length ≤ cap ∧ cap ≤ 9223372036854775807 := by obtain ⟨_, x⟩ := d2.fst_of; exact x.get
        have T2 := hide (HK.out _ _ d2).assoc
        clear d2 HD HK
        rw [Hcn.out] at q2 T2 ⊢
        go_wp2_with fail
        go_loopw [65] (fun v ws => ∃ (j : Nat) (L3 : List HR), j ≤ cn ∧ v = .int .i64 (j : Int) ∧ Hid (WeP n' (16 * (k : Int) + (j : Int)) L3) ∧ Hid (Runs l j L3) ∧ Hid (Top (Two (Row (.slice a2 cn cap2) l) (Two (Hs ev ti up dn nw L3 b g) (Two (Blk a (askO ev ti up dn)) Nil))) W ws)) (fun v _ => cn - (intOf v).toNat)
        case atStart => exact ⟨0, L2, Nat.zero_le _, rfl, hide (HW.out.mono (by simp)), HU, T2⟩
        case round =>
          clear T2 HW HU
          obtain ⟨j, L3, hj, rfl, HW, HU, HT⟩ := hrel
          by_cases hjt : j < cn
          · have hjl : j < l.length := by rw [Hcn.out]; exact hjt
            obtain ⟨i, r, hx, hr, he⟩ := HU.out j (Nat.le_refl _) hjl
            obtain ⟨ga, oa, ca, ea, ka⟩ : ∃ ga oa ca, Value.slice a2 cn cap2 = .slice (some ⟨ga, oa, none⟩) l.length ca ∧ wr.cell? ⟨ga, oa + j, none⟩ = some (.int .i64 (l.getD j 0)) := by obtain ⟨_, x, _⟩ := HT.out.at0; exact x.1.cell hjl
            simp only [Value.slice.injEq] at ea
            obtain ⟨rfl, -, rfl⟩ := ea
            rw [hx] at ka
            obtain ⟨P3, x3, kk3⟩ := HT.out.at1
            have hw := HW.out.at hr
            have HA := hide (answer_any wr P3 ev ti up dn nw nw i r true L3 b g x3 (by rw [HW.out.n]; exact hn16) hmn (by omega) (by omega) e0 e1 hr he hw.2.2.1 (by omega) (by omega) (by omega))
            rw [mx_le (Int.le_refl nw), ansN hw.1 q0] at HA
            have HW4 := hide (HW.out.ans (ev := ev) (up := up) (m := nw) hr q0)
            have HU4 := hide (HU.out.ans HO.out hjl hx (anR ev up dn nw true r))
            have HB : Hid (hlB (L3.set i (anR ev up dn nw true r)) (i : Int) = true) := hide (by
              rw [hl_at (r := anR ev up dn nw true r) (by rw [List.getElem?_set_self (List.getElem?_eq_some_iff.1 hr).1])]
              exact (HW4.out.at (i := i) (by rw [List.getElem?_set_self (List.getElem?_eq_some_iff.1 hr).1])).1)
            have hib : i < 16 := by have := (List.getElem?_eq_some_iff.1 hr).1; rw [HW.out.n] at this; omega
            have HK3 := hide kk3
            clear x3 kk3 HT HU HW hx hr he hw
            generalize L3.set i (anR ev up dn nw true r) = L4 at *
            go_wp2_with fail
            refine HA.out.mono ?_
            rintro e w4 ⟨rfl, d4⟩
            have T4 := hide (HK3.out _ _ d4)
            have HC : Hid (Calls Try.prog 11 #[.pointer (some ⟨b, 0, none⟩), .int .i64 (i : Int)] w4 fun e w' => e = .returned (.bool true) ∧ w4 = w') := hide (by
              obtain ⟨_, x4, _⟩ := T4.out.at1
              have := healthy_any w4 ev ti up dn nw i _ b g x4.1
              rw [HB.out] at this
              exact this)
            clear d4 HA HK3
            go_wp2_with (go_at_call 11; refine HC.out.mono ?_; rintro e w' ⟨rfl, rfl⟩)
            go_roundw
            case rel => exact ⟨j + 1, L4, by omega, by go_num, hide (HW4.out.mono (by push_cast; omega)), HU4, T4⟩
            case measure => simp [intOf]; omega
          · obtain rfl : j = cn := by omega
            have HT2 := hide HT.out.drop
            have HW5 : Hid (WeP n' (16 * ((k + 1 : Nat) : Int)) L3) := hide (HW.out.mono (by push_cast; omega))
            clear HT HW HU
            go_wp2_with fail
            go_roundw
            case rel => exact ⟨k + 1, nw, nw, L3, by omega, by go_num, rfl, by omega, hide (by omega), HW5, HT2⟩
            case measure => simp [intOf]; omega
      · have ek : k = len := by omega
        subst ek
        clear hst HL
        go_wp2_with fail
        go_loopw [18] (fun v ws => ∃ (i : Nat), i ≤ n' ∧ v = .int .i64 (i : Int) ∧ wr = ws) (fun v _ => n' - (intOf v).toNat)
        case atStart => exact ⟨0, Nat.zero_le _, rfl, rfl⟩
        case round =>
          obtain ⟨i, hi, rfl, rfl⟩ := hrel
          by_cases hil : i < n'
          · have hli : i < L.length := by rw [HP.out.n]; exact hil
            have HC : Hid (Calls Try.prog 11 #[.pointer (some ⟨b, 0, none⟩), .int .i64 (i : Int)] wr fun e w' => e = .returned (.bool true) ∧ wr = w') := hide (by
              obtain ⟨_, x4, _⟩ := HI.out.at0
              have := healthy_any wr ev ti up dn la i _ b g x4.1
              rw [hl_at (get_take hli), (HP.out.at (get_take hli)).1] at this
              exact this)
            clear hli
            have h16 : (i : Int) < 16 := by omega
            have h17 : (i : Int) < (n' : Int) := by omega
            go_wp2_with (go_at_call 11; refine HC.out.mono ?_; rintro e w' ⟨rfl, rfl⟩)
            go_roundw
            case rel => exact ⟨i + 1, by omega, by go_num, trivial⟩
            case measure => simp [intOf]; omega
          · obtain rfl : i = n' := by omega
            go_wp2_with (go_at_call 8; refine (speaks_any _).mono ?_; rintro e w3 ⟨rfl, HG⟩)
            go_ret
            exact ⟨rfl, (HI.out.fr.trans HG (fun _ _ x => x)).below (by omega) (fun _ _ x => x)⟩
  · have HN := hide (fun V => new_bad V n ev ti up dn 0 hA)
    clear hA
    go_enter Try.func6, Try.ntmps6
    go_wp2_with (first | (go_at_call 7; refine (HN.out _).mono ?_; rintro e w2 ⟨rfl, F2⟩) | (go_at_call 8; refine (speaks_any _).mono ?_; rintro e w3 ⟨rfl, HG⟩))
    go_ret
    exact ⟨rfl, (((Fr.alloc none' W _).trans F2 (fun _ _ x => x)).trans HG (fun _ _ x => x)).below (Nat.le_refl _) (fun _ _ x => x)⟩
end Go.Proofs.Ytlnckiknikaifaa
