/- HostsLonger, walked. -/
import Derived.Test.YtobkgkcemdocnaaOTot
namespace Go.Proofs.Ytobkgkcemdocnaa
open Go.ChangeShapes Go.WideShapes Go.ChangeAt Go.RowKit

/-- One host of interest, all others as at first. -/
def Ln (n : Nat) (r : HR) : List HR := r :: List.replicate (n - 1) (z0 true)
theorem Ln.len {n : Nat} {r : HR} (h : 1 ≤ n) : (Ln n r).length = n := by unfold Ln; simp; omega
theorem Ln.br (n : Nat) (m : Int) (r : HR) : brS m (Ln n r) = Ln n (brR m r) := by
  unfold Ln brS
  rw [List.map_cons, List.map_replicate]
  rfl
theorem Ln.set (n : Nat) (r r' : HR) : (Ln n r).set 0 r' = Ln n r' := rfl
theorem Ln.at0 (n : Nat) (r : HR) : (Ln n r)[0]? = some r := rfl
theorem Ln.nE (n : Nat) (r : HR) : nE (Ln n r) = if r.e then 1 else 0 := by
  unfold Ln Go.Proofs.Ytobkgkcemdocnaa.nE
  rw [List.countP_cons, List.countP_eq_zero.2 (fun x hx => by rw [List.eq_of_mem_replicate hx]; simp [z0])]
  simp
theorem Ln.nums {p : HR → Bool} (n : Nat) (r : HR) (hp : p (z0 true) = false) : ∀ k, 1 ≤ k → nums p (Ln n r) k = if p r then [0] else []
  | 0, h => by omega
  | 1, _ => by rw [nums_succ (Ln.at0 n r)]; rfl
  | k + 2, _ => by
    have ih := Ln.nums n r hp (k + 1) (by omega)
    show Go.Proofs.Ytobkgkcemdocnaa.nums p (Ln n r) (k + 1) ++ _ = _
    rw [ih]
    cases hx : (Ln n r)[k + 1]? with
    | none => simp
    | some y =>
      have : y = z0 true := by
        unfold Ln at hx
        rw [List.getElem?_cons_succ] at hx
        exact List.eq_of_mem_replicate (List.mem_of_getElem? hx)
      subst this
      simp [hp]
theorem Ln.init {n : Nat} (h : 1 ≤ n) : List.replicate n (z0 true) = Ln n (z0 true) := by
  unfold Ln
  rw [← List.replicate_succ]
  congr 1
  omega
/-- A failure of that host. -/
theorem Ln.fail {n : Nat} {fl bs lo sh now u k t : Int} (h : 1 ≤ n) (f0 : 1 ≤ fl) (hs : 100 ≤ sh * (n : Int)) (hm : mom now = true) :
    askE (Ln n ⟨true, false, u, k, t⟩).length now 0 = 0 ∧ rsA (Ln n ⟨true, false, u, k, t⟩) now now 0 = now ∧ rsB fl sh now (Ln n ⟨true, false, u, k, t⟩) now 0 false = decide (fl ≤ k + 1) ∧
    rsL fl bs lo sh now (Ln n ⟨true, false, u, k, t⟩) now 0 false = Ln n (if fl ≤ k + 1 then ⟨true, true, latI now (span bs lo (t + 1)), 0, t + 1⟩ else ⟨true, false, u, k + 1, t⟩) := by
  have ea : askE (Ln n ⟨true, false, u, k, t⟩).length now 0 = 0 := by
    unfold askE hasB
    rw [hm, if_pos rfl, Ln.len h, if_pos (by simp; omega)]
  have em : mx now now = now := by unfold mx; split <;> omega
  have eb : brS (mx now now) (Ln n ⟨true, false, u, k, t⟩) = Ln n ⟨true, false, u, k, t⟩ := by rw [Ln.br]; rfl
  have er : rowAt (Ln n ⟨true, false, u, k, t⟩) 0 = ⟨true, false, u, k, t⟩ := rfl
  have ero : roomB sh (Ln n ⟨true, false, u, k, t⟩) = true := by
    unfold roomB
    rw [Ln.nE, Ln.len h]
    simp
    omega
  have ee : ejB fl sh (Ln n ⟨true, false, u, k, t⟩) ⟨true, false, u, k, t⟩ = decide (fl ≤ k + 1) := by
    unfold ejB
    rw [ero, decide_eq_false (show ¬ fl = 0 by omega)]
    simp
  refine ⟨ea, by unfold rsA; rw [ea, if_pos rfl, em], ?_, ?_⟩
  · unfold rsB resB
    rw [ea, eb, er, ee]
    simp
  · unfold rsL
    rw [ea, if_pos rfl, eb, er, em]
    show Ln n (resR fl bs lo sh now (Ln n ⟨true, false, u, k, t⟩) ⟨true, false, u, k, t⟩ false) = _
    congr 1
    unfold resR
    rw [ee]
    by_cases hx : fl ≤ k + 1
    · rw [if_pos hx, decide_eq_true hx]; rfl
    · rw [if_neg hx, decide_eq_false hx]; rfl

theorem Ln.ok {n : Nat} {fl bs lo sh la : Int} {r : HR} (h : HOk fl bs lo sh 0 0 (List.replicate n (z0 true))) (hl : 0 ≤ la ∧ la ≤ 4611686018427387904) (hr : (0 ≤ r.f ∧ r.f ≤ 1000) ∧ (0 ≤ r.t ∧ r.t ≤ 1000) ∧ (0 ≤ r.u ∧ r.u ≤ 4611686018427387904)) : HOk fl bs lo sh la 1000 (Ln n r) := by
  have hn := h.n0
  have hn2 := h.n1
  rw [List.length_replicate] at hn hn2
  refine ⟨h.f0, h.f1, h.b0, h.b1, h.o0, h.o1, h.s0, h.s1, hl.1, hl.2, by rw [Ln.len hn]; exact hn, by rw [Ln.len hn]; exact hn2, by omega, fun x hx => ?_⟩
  unfold Ln at hx
  rcases List.mem_cons.1 hx with rfl | hx
  · exact hr
  · rw [List.eq_of_mem_replicate hx]; decide
def rr (fl bs lo now u : Int) (i k : Nat) : HR := if (k : Int) < fl then ⟨true, false, u, k, i⟩ else ⟨true, true, latI now (span bs lo ((i : Int) + 1)), 0, (i : Int) + 1⟩
set_option maxHeartbeats 4000000 in
set_option maxRecDepth 100000 in
theorem longer_walk (n fl bs lo sh times : Int) (W : World) :
    Calls Try.prog 5 #[.agg #[.int .i64 n, .int .i64 fl, .int .i64 bs, .int .i64 lo, .int .i64 sh], .int .i64 times] W fun e w' => e = .returned (.bool true) ∧ Below W.heap.size W w' := by
  by_cases hA : okN n fl bs lo sh
  · obtain ⟨n', rfl⟩ := Int.eq_ofNat_of_zero_le (show 0 ≤ n by have := hA.1.1; omega)
    have HN := hide (fun V => new_any V n' fl bs lo sh hA)
    have K0 := hide hA.ok
    obtain ⟨⟨m0, m1⟩, ⟨a0, a1⟩, ⟨b0, b1⟩, ⟨o0, o1⟩, d0, d1⟩ := hA
    have hn1 : 1 ≤ n' := by omega
    have x0 : 0 ≤ sh * (n' : Int) := Int.mul_nonneg d0 (by omega)
    have x1 : sh * (n' : Int) ≤ 1600 := by have := Int.mul_le_mul d1 m1 (by omega) (by omega : (0:Int) ≤ 100); omega
    have HWS : Hid (IntKind.i64.wrap (sh * (n' : Int)) = sh * (n' : Int)) := hide (IntWalk.i64_in _ (by omega))
    by_cases hg : fl = 0 ∨ 100 < fl ∨ sh * (n' : Int) < 100
    · have hg2 : (fl = 0) ∨ (¬ fl = 0 ∧ 100 < fl) ∨ (¬ fl = 0 ∧ ¬ 100 < fl ∧ sh * (n' : Int) < 100) := by omega
      clear hg
      rcases hg2 with hq | ⟨hq, hq1⟩ | ⟨hq, hq1, hq2⟩
      all_goals
        first
        | (have y1 : (fl == 0) = true := by simpa using hq)
        | (have y1 : (fl == 0) = false := by simpa using hq)
        clear hq
        go_enter Try.func5, Try.ntmps5
        go_wp2_with fail
        have T0 : Hid (Top (Two (Blk W.heap.size (askO n' fl bs lo sh)) Nil) W (W.alloc (askO n' fl bs lo sh))) := hide ((Top.nil W).put (Blk.new W _))
        generalize W.alloc (askO n' fl bs lo sh) = W1 at T0 ⊢
        obtain ⟨a, Ha⟩ : ∃ a, Hid (W.heap.size = a) := ⟨_, hide rfl⟩
        rw [Ha.out] at T0 ⊢
        refine (HN.out W1).mono ?_
        rintro e w1 ⟨rfl, d⟩
        have T1 := hide (T0.out.put d)
        clear d T0 HN
        generalize W1.heap.size = g at *
        obtain ⟨_, xb, _⟩ := T1.out.at1
        have c0 : w1.cell? ⟨a, 0, none⟩ = some (.int .i64 (n' : Int)) := cell_of xb.1 0
        have c1 : w1.cell? ⟨a, 1, none⟩ = some (.int .i64 fl) := cell_of xb.1 1
        have c4 : w1.cell? ⟨a, 4, none⟩ = some (.int .i64 sh) := cell_of xb.1 4
        have HF := hide T1.out.fr
        clear xb
        go_wp2_with (go_at_call 10; refine (speaks_any _).mono ?_; rintro e w9 ⟨rfl, HG⟩)
        go_ret
        exact ⟨rfl, (HF.out.trans HG (fun _ _ x => x)).below (Nat.le_refl _) (fun _ _ x => x)⟩
    · have g0 : ¬ fl = 0 := by omega
      have g1 : ¬ 100 < fl := by omega
      have g2 : ¬ sh * (n' : Int) < 100 := by omega
      have g3 : 1 ≤ fl := by omega
      have y1 : (fl == 0) = false := by simpa using g0
      clear hg g0
      go_enter Try.func5, Try.ntmps5
      go_wp2_with fail
      have T0 : Hid (Top (Two (Blk W.heap.size (askO n' fl bs lo sh)) Nil) W (W.alloc (askO n' fl bs lo sh))) := hide ((Top.nil W).put (Blk.new W _))
      generalize W.alloc (askO n' fl bs lo sh) = W1 at T0 ⊢
      obtain ⟨a, Ha⟩ : ∃ a, Hid (W.heap.size = a) := ⟨_, hide rfl⟩
      rw [Ha.out] at T0 ⊢
      refine (HN.out W1).mono ?_
      rintro e w1 ⟨rfl, d⟩
      have T1 := hide (T0.out.put d)
      clear d T0 HN
      generalize W1.heap.size = g at *
      obtain ⟨b, Hb⟩ : ∃ b, Hid (g + 1 = b) := ⟨_, hide rfl⟩
      rw [Hb.out, Ln.init hn1] at T1
      rw [Hb.out]
      obtain ⟨_, xb, _⟩ := T1.out.at1
      have c0 : w1.cell? ⟨a, 0, none⟩ = some (.int .i64 (n' : Int)) := cell_of xb.1 0
      have c1 : w1.cell? ⟨a, 1, none⟩ = some (.int .i64 fl) := cell_of xb.1 1
      have c4 : w1.cell? ⟨a, 4, none⟩ = some (.int .i64 sh) := cell_of xb.1 4
      clear xb
      go_wp2_with fail
      clear c0 c1 c4 y1
      have hflN : Hid ((fl.toNat : Int) = fl) := hide (Int.toNat_of_nonneg a0)
      go_loopw [7, 8] (fun s7 s8 wr => ∃ (i : Nat) (now u : Int), i ≤ 20 ∧ s8 = .int .i64 (i : Int) ∧ s7 = .int .i64 now ∧ Hid (0 ≤ now ∧ now ≤ (i : Int) * 1000000) ∧ Hid (0 ≤ u ∧ u ≤ 4611686018427387904) ∧ Hid (Top (Two (Hs fl bs lo sh now (Ln n' ⟨true, false, u, 0, i⟩) b g) (Two (Blk a (askO n' fl bs lo sh)) Nil)) W wr)) (fun _ v _ => 20 - (intOf v).toNat)
      case atStart => exact ⟨0, 0, 0, by omega, rfl, rfl, hide ⟨by omega, by omega⟩, hide ⟨by omega, by omega⟩, T1⟩
      case round =>
        clear T1
        obtain ⟨i, now, u, hi, rfl, rfl, HNO, HU, HI⟩ := hrel
        have HF := hide HI.out.fr
        by_cases hlt : (i : Int) < times ∧ i < 20
        · obtain ⟨h1, h2⟩ := hlt
          have h2i : (i : Int) < 20 := by omega
          have n0 := HNO.out.1
          have n1 : now ≤ 20000000 := by have := HNO.out.2; omega
          have hmo : mom now = true := mom_yes (by omega) (by omega)
          have HMO := hide hmo
          have HSB := hide (span_bd (bs := bs) (lo := lo) (t := (i : Int) + 1) (K := 1000) b0 b1 o0 (by omega) (by omega) (by omega))
          have HPB := hide (prod_bd (bs := bs) (t := (i : Int) + 1) (K := 1000) b0 b1 (by omega) (by omega) (by omega))
          clear hmo
          obtain ⟨wf, ew⟩ : ∃ wf, wf = wr := ⟨wr, rfl⟩
          subst ew
          go_wp2_with fail
          go_loopw [9] (fun s9 wr => ∃ (k : Nat), (k : Int) ≤ fl ∧ s9 = .int .i64 (k : Int) ∧ Hid (Top (Two (Hs fl bs lo sh now (Ln n' (rr fl bs lo now u i k)) b g) (Two (Blk a (askO n' fl bs lo sh)) Nil)) W wr)) (fun v _ => fl.toNat - (intOf v).toNat)
          case atStart => exact ⟨0, by omega, rfl, by rw [show rr fl bs lo now u i 0 = ⟨true, false, u, 0, i⟩ by unfold rr; rw [if_pos (by omega)]; rfl]; exact HI⟩
          case round =>
            clear HI
            obtain ⟨k, hk, rfl, HJ⟩ := hrel
            obtain ⟨_, xb, _⟩ := HJ.out.at1
            have c1 : wr.cell? ⟨a, 1, none⟩ = some (.int .i64 fl) := cell_of xb.1 1
            have c2 : wr.cell? ⟨a, 2, none⟩ = some (.int .i64 bs) := cell_of xb.1 2
            have c3 : wr.cell? ⟨a, 3, none⟩ = some (.int .i64 lo) := cell_of xb.1 3
            clear xb
            by_cases hkl : (k : Int) < fl
            · have hrr : rr fl bs lo now u i k = ⟨true, false, u, k, i⟩ := by unfold rr; rw [if_pos hkl]
              rw [hrr] at HJ
              obtain ⟨P, h3, h4⟩ := HJ.out.at0
              have H4 := hide h4
              obtain ⟨q1, q2, q3, q4⟩ := Ln.fail (n := n') (fl := fl) (bs := bs) (lo := lo) (sh := sh) (now := now) (u := u) (k := (k : Int)) (t := (i : Int)) hn1 g3 (by omega) HMO.out
              have HC := hide (result_u wr P fl bs lo sh now now 0 1000 false _ b g h3 (Ln.ok K0.out ⟨by omega, by omega⟩ ⟨⟨by show (0:Int) ≤ k; omega, by show (k:Int) ≤ 1000; omega⟩, ⟨by show (0:Int) ≤ i; omega, by show (i:Int) ≤ 1000; omega⟩, HU.out⟩) (by omega))
              rw [q1, q2, q3, q4] at HC
              have hnx : (if fl ≤ (k : Int) + 1 then (⟨true, true, latI now (span bs lo ((i : Int) + 1)), 0, (i : Int) + 1⟩ : HR) else ⟨true, false, u, (k : Int) + 1, i⟩) = rr fl bs lo now u i (k + 1) := by
                unfold rr
                by_cases x : fl ≤ (k : Int) + 1
                · rw [if_pos x, if_neg (by omega)]
                · rw [if_neg x, if_pos (by omega)]; congr 1
              rw [hnx] at HC
              clear q1 q2 q3 q4 hnx h3 h4 HJ hrr
              by_cases hlast : fl ≤ (k : Int) + 1
              · have hk2 : (k : Int) = fl - 1 := by omega
                have hk3 : ((k : Int) == fl - 1) = true := by simpa using hk2
                rw [decide_eq_true hlast] at HC
                have HK2 := hide hk2
                clear hk2
                go_wp2_with fail
                refine HC.out.mono ?_
                rintro e w3 ⟨rfl, d⟩
                have T3 := hide (H4.out _ _ d)
                clear d H4 HC c1 c2 c3
                obtain ⟨_, xb, _⟩ := T3.out.at1
                have c1 : w3.cell? ⟨a, 1, none⟩ = some (.int .i64 fl) := cell_of xb.1 1
                clear xb
                go_wp2_with fail
                go_roundw
                case rel => exact ⟨k + 1, by omega, by go_num, T3⟩
                case measure => have := hflN.out; simp [intOf]; omega
              · have hk2 : ¬ (k : Int) = fl - 1 := by omega
                have hk3 : ((k : Int) == fl - 1) = false := by simpa using hk2
                rw [decide_eq_false hlast] at HC
                go_wp2_with fail
                refine HC.out.mono ?_
                rintro e w3 ⟨rfl, d⟩
                have T3 := hide (H4.out _ _ d)
                clear d H4 HC c1 c2 c3
                obtain ⟨_, xb, _⟩ := T3.out.at1
                have c1 : w3.cell? ⟨a, 1, none⟩ = some (.int .i64 fl) := cell_of xb.1 1
                clear xb
                go_wp2_with fail
                go_roundw
                case rel => exact ⟨k + 1, by omega, by go_num, T3⟩
                case measure => have := hflN.out; simp [intOf]; omega
            · have hrr : rr fl bs lo now u i k = ⟨true, true, latI now (span bs lo ((i : Int) + 1)), 0, (i : Int) + 1⟩ := by unfold rr; rw [if_neg hkl]
              rw [hrr] at HJ
              clear hrr
              obtain ⟨p0, p1⟩ := HPB.out
              obtain ⟨sp0, sp1⟩ := HSB.out
              have hw : IntKind.i64.wrap (bs * ((i : Int) + 1)) = bs * ((i : Int) + 1) := IntWalk.i64_in _ (by omega)
              have hla : latI now (span bs lo ((i : Int) + 1)) = now + span bs lo ((i : Int) + 1) := by unfold latI; rw [if_neg (by omega)]
              rw [hla] at HJ
              have HSD : Hid (span bs lo ((i : Int) + 1) = if lo < bs * ((i : Int) + 1) then lo else bs * ((i : Int) + 1)) := hide rfl
              clear hla HSB HPB
              obtain ⟨sp, Hsp⟩ : ∃ sp, Hid (span bs lo ((i : Int) + 1) = sp) := ⟨_, hide rfl⟩
              rw [Hsp.out] at HJ sp0 sp1 HSD
              have HUN : Hid (Calls Try.prog 12 #[.pointer (some ⟨b, 0, none⟩), .int .i64 0] wr fun e w' => e = .returned (.tuple #[.int .i64 (now + sp), .bool true]) ∧ wr = w') := by
                obtain ⟨_, x, _⟩ := HJ.out.at0
                exact hide (until_h wr fl bs lo sh now 0 _ b g x.1)
              obtain ⟨P, h3, h4⟩ := HJ.out.at0
              have H4 := hide h4
              have HB1 := hide (bring_any wr P fl bs lo sh now (now + sp - 1) _ b g h3 (by rw [Ln.len hn1]; omega) (mom_yes (by omega) (by omega)))
              have em1 : mx now (now + sp - 1) = now + sp - 1 := by unfold mx; split <;> omega
              have er1 : rst (now + sp - 1) ⟨true, true, now + sp, 0, (i : Int) + 1⟩ = false := by unfold rst; simp; omega
              rw [em1, Ln.br, Ln.len hn1, Ln.nums n' _ rfl n' hn1, er1, show brR (now + sp - 1) ⟨true, true, now + sp, 0, (i : Int) + 1⟩ = ⟨true, true, now + sp, 0, (i : Int) + 1⟩ by unfold brR; rw [er1]; rfl] at HB1
              have HB2 := hide (fun V Q h => bring_any V Q fl bs lo sh (now + sp - 1) (now + sp) (Ln n' ⟨true, true, now + sp, 0, (i : Int) + 1⟩) b g h (by rw [Ln.len hn1]; omega) (mom_yes (by omega) (by omega)))
              have em2 : mx (now + sp - 1) (now + sp) = now + sp := by unfold mx; split <;> omega
              have er2 : rst (now + sp) ⟨true, true, now + sp, 0, (i : Int) + 1⟩ = true := by unfold rst; simp
              rw [em2, Ln.br, Ln.len hn1, Ln.nums n' _ rfl n' hn1, er2, show brR (now + sp) ⟨true, true, now + sp, 0, (i : Int) + 1⟩ = ⟨true, false, now + sp, 0, (i : Int) + 1⟩ by unfold brR; rw [er2]; rfl] at HB2
              have HNO2 : Hid (0 ≤ now + sp ∧ now + sp ≤ ((i + 1 : Nat) : Int) * 1000000) := hide ⟨by omega, by have := HNO.out.2; omega⟩
              have HU2 : Hid (0 ≤ now + sp ∧ now + sp ≤ 4611686018427387904) := hide ⟨by omega, by omega⟩
              clear em1 er1 em2 er2 h3 h4 HJ
              have hcase : (lo < bs * ((i : Int) + 1) ∧ sp = lo) ∨ (¬ lo < bs * ((i : Int) + 1) ∧ sp = bs * ((i : Int) + 1)) := by
                have := HSD.out
                by_cases x : lo < bs * ((i : Int) + 1)
                · rw [if_pos x] at this; exact .inl ⟨x, this⟩
                · rw [if_neg x] at this; exact .inr ⟨x, this⟩
              clear HSD Hsp HU HNO
              rcases hcase with ⟨hc, rfl⟩ | ⟨hc, rfl⟩
              · go_wp2_with (go_at_call 12; refine HUN.out.mono ?_; rintro e w' ⟨rfl, rfl⟩)
                refine HB1.out.mono ?_
                rintro e w3 ⟨v1, rfl, d⟩
                have T3 := hide (H4.out _ _ d).assoc
                clear d H4 HB1 HUN
                obtain ⟨a9, cap9, rfl, z1, z2⟩ : ∃ a cap, v1 = .slice a 0 cap ∧ 0 ≤ cap ∧ cap ≤ 9223372036854775807 := by obtain ⟨_, x, _⟩ := T3.out.at0; exact x.get
                obtain ⟨P, h3, h4⟩ := T3.out.at1
                have H4 := hide h4
                have HB3 := hide (HB2.out w3 P h3)
                clear h3 h4 T3 HB2 c1 c2 c3
                go_wp2_with fail
                refine HB3.out.mono ?_
                rintro e w4 ⟨v2, rfl, d⟩
                have T4 := hide (H4.out _ _ d).assoc1.drop
                clear d H4 HB3
                obtain ⟨a8, cap8, rfl, z3, z4⟩ : ∃ a cap, v2 = .slice a 1 cap ∧ 1 ≤ cap ∧ cap ≤ 9223372036854775807 := by obtain ⟨_, x, _⟩ := T4.out.at0; exact x.get
                go_wp2_with fail
                have T5 := hide (T4.out.same (Fr.alloc none' w4 (.cells #[.int .i64 0] 3)))
                have S5 := hide (sr_lit w4 0)
                generalize w4.alloc (.cells #[.int .i64 0] 3) = w5 at *
                generalize w4.heap.size = e5 at *
                have HII := hide (ints_any w5 (.slice a8 1 cap8) _ [0] [0] (by obtain ⟨_, x, _⟩ := T5.out.at0; exact x.1) S5.out (by decide) (by decide))
                rw [show decide ([0] = [(0 : Int)]) = true by decide] at HII
                clear T4 S5
                refine HII.out.mono ?_
                rintro e w6 ⟨rfl, q, rfl⟩
                have T6 := hide ((T5.out.same (Fr.drewN none' w5 q)).drop)
                clear T5 HII
                generalize w5.drewN q = w6 at *
                go_wp2_with fail
                go_roundw
                case rel => exact ⟨i + 1, _, _, by omega, by go_num, rfl, HNO2, HU2, T6⟩
                case measure => simp [intOf]; omega
              · go_wp2_with (go_at_call 12; refine HUN.out.mono ?_; rintro e w' ⟨rfl, rfl⟩)
                refine HB1.out.mono ?_
                rintro e w3 ⟨v1, rfl, d⟩
                have T3 := hide (H4.out _ _ d).assoc
                clear d H4 HB1 HUN
                obtain ⟨a9, cap9, rfl, z1, z2⟩ : ∃ a cap, v1 = .slice a 0 cap ∧ 0 ≤ cap ∧ cap ≤ 9223372036854775807 := by obtain ⟨_, x, _⟩ := T3.out.at0; exact x.get
                obtain ⟨P, h3, h4⟩ := T3.out.at1
                have H4 := hide h4
                have HB3 := hide (HB2.out w3 P h3)
                clear h3 h4 T3 HB2 c1 c2 c3
                go_wp2_with fail
                refine HB3.out.mono ?_
                rintro e w4 ⟨v2, rfl, d⟩
                have T4 := hide (H4.out _ _ d).assoc1.drop
                clear d H4 HB3
                obtain ⟨a8, cap8, rfl, z3, z4⟩ : ∃ a cap, v2 = .slice a 1 cap ∧ 1 ≤ cap ∧ cap ≤ 9223372036854775807 := by obtain ⟨_, x, _⟩ := T4.out.at0; exact x.get
                go_wp2_with fail
                have T5 := hide (T4.out.same (Fr.alloc none' w4 (.cells #[.int .i64 0] 3)))
                have S5 := hide (sr_lit w4 0)
                generalize w4.alloc (.cells #[.int .i64 0] 3) = w5 at *
                generalize w4.heap.size = e5 at *
                have HII := hide (ints_any w5 (.slice a8 1 cap8) _ [0] [0] (by obtain ⟨_, x, _⟩ := T5.out.at0; exact x.1) S5.out (by decide) (by decide))
                rw [show decide ([0] = [(0 : Int)]) = true by decide] at HII
                clear T4 S5
                refine HII.out.mono ?_
                rintro e w6 ⟨rfl, q, rfl⟩
                have T6 := hide ((T5.out.same (Fr.drewN none' w5 q)).drop)
                clear T5 HII
                generalize w5.drewN q = w6 at *
                go_wp2_with fail
                go_roundw
                case rel => exact ⟨i + 1, _, _, by omega, by go_num, rfl, HNO2, HU2, T6⟩
                case measure => simp [intOf]; omega
        · have hlt2 : ¬ (i : Int) < times ∨ ((i : Int) < times ∧ ¬ (i : Int) < 20) := by omega
          clear hlt
          rcases hlt2 with hx | ⟨hx, hx2⟩
          all_goals
            go_wp2_with (go_at_call 10; refine (speaks_any _).mono ?_; rintro e w9 ⟨rfl, HG⟩)
            go_ret
            exact ⟨rfl, (HF.out.trans HG (fun _ _ x => x)).below (Nat.le_refl _) (fun _ _ x => x)⟩
  · have HN := hide (fun V => new_bad V n fl bs lo sh hA)
    clear hA
    go_enter Try.func5, Try.ntmps5
    go_wp2_with (first | (go_at_call 8; refine (HN.out _).mono ?_; rintro e w' ⟨rfl, rfl⟩) | (go_at_call 10; refine (speaks_any _).mono ?_; rintro e w9 ⟨rfl, HG⟩))
    go_ret
    exact ⟨rfl, ((Fr.alloc none' W _).trans HG (fun _ _ x => x)).below (Nat.le_refl _) (fun _ _ x => x)⟩
end Go.Proofs.Ytobkgkcemdocnaa
