/- WQ: RPur PCx RBeW. -/
import Derived.Test.YtacnnomkacfdbaaGreatDoorWG
import Derived.Test.YtacnnomkacfdbaaGreatDoorWB
import Derived.Test.YtacnnomkacfdbaaGreatDoorWP
/- Of some routes the one that Find takes: none is better, none ahead of it as good. -/
namespace Go.Proofs.YtacnnomkacfdbaaGreatDoor
open Go.ChangeShapes Go.WideShapes Go.ChangeAt Go.RowKit

/-- What routes are held against one another by. -/
def ky (R : List Rt) (h : ByteArray) (k : Nat) : Int × Int := match R[k]? with | some x => (nearK x.ho h, (x.pf.size : Int)) | none => (0, 0)
def gtK (a b : Int × Int) : Prop := b.1 < a.1 ∨ (b.1 = a.1 ∧ b.2 < a.2)
theorem bet_pos (x y : Rt) (h : ByteArray) : 0 < betK x y h ↔ gtK (nearK x.ho h, (x.pf.size : Int)) (nearK y.ho h, (y.pf.size : Int)) := by
  unfold betK orK cmpK gtK
  generalize nearK x.ho h = a
  generalize nearK y.ho h = b
  dsimp only
  by_cases h1 : a < b
  · simp only [if_pos h1]
    rw [if_neg (by decide)]
    constructor <;> intro h <;> omega
  · by_cases h2 : b < a
    · simp only [if_neg h1, if_pos h2]
      rw [if_neg (by decide)]
      constructor <;> intro h <;> omega
    · simp only [if_neg h1, if_neg h2, if_true]
      split
      · constructor <;> intro h <;> omega
      · split <;> constructor <;> intro h <;> omega
theorem step_ky {R : List Rt} {h : ByteArray} {m k : Nat} (hk : k < R.length) (hm : m < R.length) : (gtK (ky R h k) (ky R h m) ∧ stepM R h m k = k) ∨ (¬ gtK (ky R h k) (ky R h m) ∧ stepM R h m k = m) := by
  have e1 : ky R h k = (nearK R[k].ho h, (R[k].pf.size : Int)) := by unfold ky; rw [List.getElem?_eq_getElem hk]
  have e2 : ky R h m = (nearK R[m].ho h, (R[m].pf.size : Int)) := by unfold ky; rw [List.getElem?_eq_getElem hm]
  rw [e1, e2, ← bet_pos, stepM_at hk hm]
  by_cases hb : 0 < betK R[k] R[m] h
  · exact .inl ⟨hb, if_pos hb⟩
  · exact .inr ⟨hb, if_neg hb⟩
structure Best (R : List Rt) (h : ByteArray) (O : List Nat) (m : Nat) : Prop where
  mem : m ∈ O
  le : ∀ k ∈ O, ¬ gtK (ky R h k) (ky R h m)
  lt : ∀ k ∈ O, k < m → gtK (ky R h m) (ky R h k)
theorem maxK_app (R : List Rt) (h : ByteArray) {O : List Nat} (h0 : O ≠ []) (k : Nat) : maxK R h (O ++ [k]) = stepM R h (maxK R h O) k := by
  cases O with
  | nil => exact absurd rfl h0
  | cons i r => simp [maxK, List.foldl_append]
theorem best_of (R : List Rt) (me : ByteArray) (A : List (ByteArray × ByteArray)) (host path : ByteArray) : ∀ k, k ≤ R.length → fndT R me A host path k ≠ [] → Best R host (fndT R me A host path k) (maxK R host (fndT R me A host path k))
  | 0, _, h => absurd rfl h
  | k + 1, hk, h => by
    have hkl : k < R.length := by omega
    rw [fndT_snoc hkl] at h ⊢
    by_cases ht : takR R[k] me A host path = true
    · rw [if_pos ht]
      have hlt := fndT_lt (R := R) (me := me) (A := A) (host := host) (path := path) (k := k)
      by_cases h0 : fndT R me A host path k = []
      · rw [h0]
        refine ⟨by simp [maxK], fun j hj => ?_, fun j hj hl => ?_⟩
        · simp only [List.nil_append, List.mem_singleton] at hj
          subst hj
          simp only [List.nil_append, maxK, List.foldl_nil]
          unfold gtK
          omega
        · simp only [List.nil_append, List.mem_singleton] at hj
          simp only [List.nil_append, maxK, List.foldl_nil] at hl
          omega
      · have ih := best_of R me A host path k (by omega) h0
        rw [maxK_app R host h0]
        generalize fndT R me A host path k = O at *
        generalize maxK R host O = m at *
        have hm : m < k := hlt _ ih.mem
        rcases step_ky (R := R) (h := host) (m := m) (k := k) hkl (by omega) with ⟨hg, e⟩ | ⟨hg, e⟩
        · rw [e]
          refine ⟨by simp, fun j hj => ?_, fun j hj hl => ?_⟩
          · rcases List.mem_append.1 hj with hj | hj
            · have := ih.le j hj
              unfold gtK at this hg ⊢
              omega
            · rw [List.mem_singleton] at hj
              subst hj
              unfold gtK
              omega
          · rcases List.mem_append.1 hj with hj | hj
            · have := ih.le j hj
              unfold gtK at this hg ⊢
              omega
            · rw [List.mem_singleton] at hj
              omega
        · rw [e]
          refine ⟨List.mem_append.2 (.inl ih.mem), fun j hj => ?_, fun j hj hl => ?_⟩
          · rcases List.mem_append.1 hj with hj | hj
            · exact ih.le j hj
            · rw [List.mem_singleton] at hj
              subst hj
              exact hg
          · rcases List.mem_append.1 hj with hj | hj
            · exact ih.lt j hj hl
            · rw [List.mem_singleton] at hj
              omega
    · rw [if_neg ht] at h ⊢
      exact best_of R me A host path k (by omega) h
theorem fndT_mem {R : List Rt} {me : ByteArray} {A : List (ByteArray × ByteArray)} {host path : ByteArray} {n k : Nat} (hk : k < R.length) : k ∈ fndT R me A host path n ↔ k < n ∧ takR R[k] me A host path = true := by
  unfold fndT
  rw [List.mem_filter, List.mem_range, List.getElem?_eq_getElem hk]
/-- What is found takes the request; none of its host with a longer prefix does, none ahead of it with one as long. -/
theorem best_fin {R : List Rt} {me : ByteArray} {A : List (ByteArray × ByteArray)} {host path : ByteArray} (h0 : fndT R me A host path R.length ≠ []) :
    ∃ m, ∃ hm : m < R.length, maxK R host (fndT R me A host path R.length) = m ∧ takR R[m] me A host path = true ∧ ∀ k (hk : k < R.length), takR R[k] me A host path = true → R[k].ho = R[m].ho → R[k].pf.size ≤ R[m].pf.size ∧ (k < m → R[k].pf.size ≠ R[m].pf.size) := by
  have hb := best_of R me A host path R.length (Nat.le_refl _) h0
  generalize maxK R host (fndT R me A host path R.length) = m at hb
  have hm : m < R.length := fndT_lt _ hb.mem
  refine ⟨m, hm, rfl, ((fndT_mem hm).1 hb.mem).2, fun k hk ht he => ?_⟩
  have hin := (fndT_mem (n := R.length) hk).2 ⟨hk, ht⟩
  have e1 : ky R host k = (nearK R[m].ho host, (R[k].pf.size : Int)) := by unfold ky; rw [List.getElem?_eq_getElem hk]; simp only [he]
  have e2 : ky R host m = (nearK R[m].ho host, (R[m].pf.size : Int)) := by unfold ky; rw [List.getElem?_eq_getElem hm]
  have g1 := hb.le k hin
  have g2 := hb.lt k hin
  rw [e1, e2] at g1 g2
  unfold gtK at g1 g2
  dsimp only at g1 g2
  exact ⟨by omega, fun hl => by have := g2 hl; omega⟩
end Go.Proofs.YtacnnomkacfdbaaGreatDoor
/- A drawn region whose callees make blocks, walked once by the quick steps: over the worlds that part in new blocks alone. -/
namespace Go.Proofs.YtacnnomkacfdbaaGreatDoor
open Go.ChangeShapes Go.WideShapes Go.ChangeAt Go.RowKit

/-- A world that parts from w in new blocks alone. -/
def Sw (w : World) : Type := { W : World // Below w.heap.size w W }
instance Sw.some (w : World) : Nonempty (Sw w) := ⟨⟨w, Below.refl _ _⟩⟩
def cw {w : World} (u : Sw w) : World := u.1
theorem cw_b {w : World} (u : Sw w) : Below w.heap.size w (cw u) := u.2
theorem cw_cell {w : World} {a : Addr} {v : Value} (h : w.cell? a = some v) (u : Sw w) : (cw u).cell? a = some v := ((cw_b u).cell (World.block_lt_of_cell? w a h)).trans h
theorem call_cw {P : Program} {f : Nat} {args : Array Value} {w : World} {u : Sw w} {r : Value} (c : Calls P f args (cw u) fun e w' => e = .returned r ∧ Below (cw u).heap.size (cw u) w') : Calls P f args (cw u) fun e w' => e = .returned r ∧ ∃ u' : Sw w, w' = cw u' :=
  c.mono fun _ w' ⟨h1, h2⟩ => ⟨h1, ⟨w', (cw_b u).trans (h2.mono (cw_b u).size)⟩, rfl⟩
theorem wp_region_cw {P : Program} {id : Nat} {Q : Exit → Act → World → Prop} {a : Act} {w : World} {l : List Oper} (hm : P.follows .mixedOrders = true) (hB : Region.lexB .any l.toArray = true)
    (h : wpQuiet P l.toArray (fun W => ∃ u : Sw w, W = cw u) (fun a' => ∀ w', (∃ u : Sw w, w' = cw u) → Q .normal a' w') l a) : (Code.region id l.toArray true).wp P Q a w :=
  wp_region_quiet (C := fun W => ∃ u : Sw w, W = cw u) hm hB ⟨⟨w.drew, (Below.refl _ w).drew⟩, rfl⟩ (by simpa using h)
end Go.Proofs.YtacnnomkacfdbaaGreatDoor
/- RouteBest, walked. -/
namespace Go.Proofs.YtacnnomkacfdbaaGreatDoor
open Go.ChangeShapes Go.WideShapes Go.ChangeAt Go.RowKit
set_option linter.unusedVariables false

theorem snoc_any {R : List Rt} {me : ByteArray} {A : List (ByteArray × ByteArray)} {host path : ByteArray} {k : Nat} (hk : k < R.length) : decide (fndT R me A host path (k + 1) ≠ []) = (decide (fndT R me A host path k ≠ []) || takR R[k] me A host path) := by
  rw [fndT_snoc hk]
  cases takR R[k] me A host path <;> simp
set_option maxHeartbeats 16000000 in
set_option maxRecDepth 100000 in
theorem best_walk (w : World) (a1 a2 : Option Addr) (k1 k2 : Nat) (C : Cfg) (h : InC w a1 a2 k1 k2 C) (r : Bool) (me ta : ByteArray) (mi st : Int) (re : ByteArray) (l : Value) (A : List (ByteArray × ByteArray)) (hA : Flds w l A) (hs : Sm A) :
    Calls Tryz.prog 3 #[cfgV a1 a2 k1 k2 C, .agg (hdC r me ta mi st re l)] w fun e w' => e = .returned (.bool true) ∧ Below w.heap.size w w' := by
  obtain ⟨host, path, e0, hho, hP⟩ := place_total r me ta mi (allS A hostN) (fun x hx => allS_mem hs hx)
  have HF1 := hide (fun W (b : Below w.heap.size w W) => find_any W a1 a2 k1 k2 C (h.below (w' := W) b) r me ta mi st re l A (hA.below b) hs host path e0 hP hho)
  have HPL := hide (fun W (b : Below w.heap.size w W) => hP W st re l A rfl (hA.below b) hs (h.mx.below b))
  have HCK := hide (fun W (b : Below w.heap.size w W) => rcheck_any W a1 a2 k1 k2 C (h.below (w' := W) b))
  have HSP := hide (fun W (b : Below w.heap.size w W) => speaks_any W (h.mx.below b))
  have HRR : Hid (∀ W, Below w.heap.size w W → RRow W (.slice a2 C.R.length k2) C.R) := hide (fun W b => (h.below (w' := W) b).r)
  have HFL : Hid (∀ W, Below w.heap.size w W → Flds W l A) := hide (fun W b => hA.below b)
  have HRS := hide h.rs
  have HSM := hide hs
  have HHS := hide hho
  have HCR := hide (fun (he : cfgE C = 0) => cfg_rts he)
  clear h hs hP hho
  obtain ⟨a0, c0, rfl, _, _⟩ := hA
  rw [show fndI C.R me A host path = fndT C.R me A host path C.R.length from rfl] at HF1
  rw [cfg_same] at HF1 HCK ⊢
  unfold hdC at HF1 HPL ⊢
  have HC1 : Hid ((cfgCs (.slice a1 C.H.length k1) (.slice a2 C.R.length k2) C)[1]? = some (.slice a2 C.R.length k2)) := hide rfl
  have HC18 : (Tryz.prog.info? 25).map (·.size) = some (cfgCs (.slice a1 C.H.length k1) (.slice a2 C.R.length k2) C).length := by kernel_rfl
  generalize cfgCs (.slice a1 C.H.length k1) (.slice a2 C.R.length k2) C = CC at *
  generalize C.R = R at *
  generalize cfgE C = E at *
  clear C a1 k1
  have HBF := hide (best_fin (R := R) (me := me) (A := A) (host := host) (path := path))
  obtain ⟨n, Hn⟩ : ∃ n, Hid (R.length = n) := ⟨_, hide rfl⟩
  rw [Hn.out] at HRR HC1 HCR HF1
  obtain ⟨o1, o2, HO⟩ : ∃ o1 o2, Hid (fndR E e0 R host (fndT R me A host path n) = (o1, o2)) := ⟨_, _, hide rfl⟩
  rw [HO.out] at HF1
  unfold fndR at HO
  dsimp only at HF1
  go_enter Tryz.func3, Tryz.ntmps3
  go_upto_region 1 with fail
  have T0 := hide (Bl.two w CC.toArray 25 #[.bool r, .string me, .string ta, .int .i64 mi, .int .i64 st, .string re, .slice a0 A.length c0] 28)
  generalize ((w.alloc (.cells CC.toArray 25)).alloc (.cells #[.bool r, .string me, .string ta, .int .i64 mi, .int .i64 st, .string re, .slice a0 A.length c0] 28)) = x at T0 ⊢
  refine wp_region_lit ?_
  refine wpList_load_mid rfl 25 _ rfl w.heap.size 0 rfl CC _ (range_of (T0.out.hp 0 _ _ rfl)) Tryz.underlying25 rfl HC18 ?_
  simp only [Act.put, List.setIfInBounds_toArray, List.set_cons_zero, List.set_cons_succ]
  have n0 : x.cell? ⟨w.heap.size + 1, 0, none⟩ = some (.bool r) := T0.out.cell 1 rfl 0
  have n1 : x.cell? ⟨w.heap.size + 1, 1, none⟩ = some (.string me) := T0.out.cell 1 rfl 1
  have n2 : x.cell? ⟨w.heap.size + 1, 2, none⟩ = some (.string ta) := T0.out.cell 1 rfl 2
  have n3 : x.cell? ⟨w.heap.size + 1, 3, none⟩ = some (.int .i64 mi) := T0.out.cell 1 rfl 3
  have n4 : x.cell? ⟨w.heap.size + 1, 4, none⟩ = some (.int .i64 st) := T0.out.cell 1 rfl 4
  have n5 : x.cell? ⟨w.heap.size + 1, 5, none⟩ = some (.string re) := T0.out.cell 1 rfl 5
  have n6 : x.cell? ⟨w.heap.size + 1, 6, none⟩ = some (.slice a0 A.length c0) := T0.out.cell 1 rfl 6
  go_wp2_with fail
  refine (HF1.out x T0.out.b).mono ?_
  rintro e w1 ⟨rfl, bb⟩
  have T1 := hide (T0.out.below bb)
  clear bb T0 HF1 n0 n1 n2 n3 n4 n5 n6
  have n0 : w1.cell? ⟨w.heap.size + 1, 0, none⟩ = some (.bool r) := T1.out.cell 1 rfl 0
  have n1 : w1.cell? ⟨w.heap.size + 1, 1, none⟩ = some (.string me) := T1.out.cell 1 rfl 1
  have n2 : w1.cell? ⟨w.heap.size + 1, 2, none⟩ = some (.string ta) := T1.out.cell 1 rfl 2
  have n3 : w1.cell? ⟨w.heap.size + 1, 3, none⟩ = some (.int .i64 mi) := T1.out.cell 1 rfl 3
  have n4 : w1.cell? ⟨w.heap.size + 1, 4, none⟩ = some (.int .i64 st) := T1.out.cell 1 rfl 4
  have n5 : w1.cell? ⟨w.heap.size + 1, 5, none⟩ = some (.string re) := T1.out.cell 1 rfl 5
  have n6 : w1.cell? ⟨w.heap.size + 1, 6, none⟩ = some (.slice a0 A.length c0) := T1.out.cell 1 rfl 6
  go_wp2_with fail
  refine (HPL.out w1 T1.out.b).mono ?_
  rintro e w2 ⟨rfl, bb⟩
  have T2 := hide (T1.out.below bb)
  clear bb T1 HPL n0 n1 n2 n3 n4 n5 n6
  go_upto_region 3 with fail
  refine wp_region_lit ?_
  refine wpList_load_mid rfl 25 _ rfl w.heap.size 0 rfl CC _ (range_of (T2.out.hp 0 _ _ rfl)) Tryz.underlying25 rfl HC18 ?_
  simp only [Act.put, List.setIfInBounds_toArray, List.set_cons_zero, List.set_cons_succ]
  go_wp2_with fail
  refine (HCK.out w2 T2.out.b).mono ?_
  rintro e w3 ⟨rfl, bb⟩
  have T3 := hide (T2.out.below bb)
  clear bb T2 HCK
  by_cases hE : E = 0
  · have HY := hide HO.out
    rw [if_neg (fun h => h hE)] at HY
    obtain ⟨hR16, hRB⟩ := HCR.out hE
    subst hE
    clear HO HCR
    by_cases h0 : e0 = 0
    · have HZ := hide HY.out
      rw [if_neg (fun h => h h0)] at HZ
      subst h0
      clear HY
      have c1 : w3.cell? ⟨w.heap.size, 1, none⟩ = some (.slice a2 n k2) := (T3.out.cell 0 rfl 1).trans (by rw [List.getElem?_toArray]; exact HC1.out)
      go_wp2
      clear c1
      go_loopw [46, 10] (fun i v wr => ∃ k : Nat, k ≤ n ∧ i = .int .i64 k ∧ v = .bool (decide (fndT R me A host path k ≠ [])) ∧ Hid (Below w3.heap.size w3 wr)) (fun i _ _ => n - (intOf i).toNat)
      case atStart => exact ⟨0, Nat.zero_le _, rfl, rfl, hide (Below.refl _ _)⟩
      case round =>
        obtain ⟨k, hk, rfl, rfl, HB⟩ := hrel
        by_cases hlt : k < n
        · skip
          have hkl : k < R.length := by rw [Hn.out]; exact hlt
          have HB0 := hide (T3.out.b.trans (HB.out.mono T3.out.b.size))
          obtain ⟨c8, g, o, b1, d1, b2, l2, d2, e9, HM1, rg⟩ := rt_at (HRR.out wr HB0.out) hkl
          rw [Hn.out] at e9
          simp only [Value.slice.injEq, true_and] at e9
          obtain ⟨rfl, rfl⟩ := e9
          have HSR := hide HM1
          have HRG := hide rg
          clear HM1 rg
          have HNX := hide (snoc_any (me := me) (A := A) (host := host) (path := path) hkl)
          have HSZ := hide (HRS.out _ (List.getElem_mem hkl))
          have HPM := hide (hRB _ (List.getElem_mem hkl))
          generalize decide (fndT R me A host path k ≠ []) = any at HNX ⊢
          generalize R[k] = y at *
          have HTK : Hid (∀ W, Below wr.heap.size wr W → Calls Tryz.prog 10 #[.agg #[.string y.ho, .string y.pf, .slice b1 y.M.length d1, .string y.hd, .string y.va], .agg #[.bool r, .string me, .string ta, .int .i64 mi, .int .i64 st, .string re, .slice a0 A.length c0], .string host, .string path] W fun e w' => e = .returned (.bool (takR y me A host path)) ∧ Below W.heap.size W w') := hide (fun W hW =>
            takes_any W y.ho y.pf (.slice b1 y.M.length d1) y.M y.hd y.va r me ta mi st re (.slice a0 A.length c0) A host path (HSR.out.below hW) (by have := HPM.out.2; omega) (HFL.out W (HB0.out.trans (hW.mono HB0.out.size))) HSM.out HSZ.out.ho (by have := HPM.out.1; omega) HSZ.out.hd HHS.out)
          have e0 : (rtC y (.slice b1 y.M.length d1) (.slice b2 l2 d2))[0]? = some (.string y.ho) := rfl
          have e1 : (rtC y (.slice b1 y.M.length d1) (.slice b2 l2 d2))[1]? = some (.string y.pf) := rfl
          have e2 : (rtC y (.slice b1 y.M.length d1) (.slice b2 l2 d2))[2]? = some (.slice b1 y.M.length d1) := rfl
          have e3 : (rtC y (.slice b1 y.M.length d1) (.slice b2 l2 d2))[3]? = some (.string y.hd) := rfl
          have e4 : (rtC y (.slice b1 y.M.length d1) (.slice b2 l2 d2))[4]? = some (.string y.va) := rfl
          have E0 := hide e0
          have E1 := hide e1
          have E2 := hide e2
          have E3 := hide e3
          have E4 := hide e4
          have X1 := rtC_one y b1 y.M.length d1 b2 l2 d2
          have X21 := rtC_len y (.slice b1 y.M.length d1) (.slice b2 l2 d2)
          have RC21 : (rtC y (.slice b1 y.M.length d1) (.slice b2 l2 d2)).toArray.size = 21 := by rw [List.size_toArray, X21]
          clear e0 e1 e2 e3 e4
          clear hkl HSR
          generalize takR y me A host path = b at HTK HNX
          generalize rtC y (.slice b1 y.M.length d1) (.slice b2 l2 d2) = RC at *
          generalize y.M.length = ml at *
          generalize y.ho = y0 at *
          generalize y.pf = y1 at *
          generalize y.hd = y3 at *
          generalize y.va = y4 at *
          go_upto_region 8 with fail
          refine wp_region_lit ?_
          refine wpList_plain rfl fun K hK => ?_
          go_simp
          refine hK _ _ ?_
          clear hK K
          refine wpList_load_mid rfl 41 _ rfl g (o + k * 21) rfl RC _ HRG.out Tryz.underlying41 rfl (by rw [X21]; kernel_rfl) ?_
          simp only [Act.put, List.setIfInBounds_toArray, List.set_cons_zero, List.set_cons_succ]
          refine wpList_plain rfl fun K hK => ?_
          go_simp
          refine hK _ _ ?_
          clear hK K
          refine wpList_store_new rfl 41 _ _ rfl _ RC.toArray rfl rfl (by rw [RC21]; kernel_rfl) (by rw [RC21]; rfl) X1 ?_
          simp only [Act.put]
          refine wpList_nil ?_
          clear HRG
          go_upto_region 9 with fail
          have U1 := hide (Bl.one wr RC.toArray 41)
          have HB1 := hide (HB.out.trans (U1.out.b.mono HB.out.size))
          have T4 := hide (T3.out.below HB1.out)
          generalize (wr.alloc (.cells RC.toArray 41)) = x1 at U1 HB1 T4 ⊢
          cases any with
          | true =>
            clear HTK
            go_wp2_with fail
            go_roundw
            case rel => exact ⟨k + 1, by omega, by go_num, by rw [HNX.out]; rfl, HB1⟩
            case measure => simp [intOf]; omega
          | false =>
            have d0 : x1.cell? ⟨wr.heap.size, 0, none⟩ = some (.string y0) := (U1.out.cell 0 rfl 0).trans (by rw [List.getElem?_toArray]; exact E0.out)
            have d1x : x1.cell? ⟨wr.heap.size, 1, none⟩ = some (.string y1) := (U1.out.cell 0 rfl 1).trans (by rw [List.getElem?_toArray]; exact E1.out)
            have d2x : x1.cell? ⟨wr.heap.size, 2, none⟩ = some (.slice b1 ml d1) := (U1.out.cell 0 rfl 2).trans (by rw [List.getElem?_toArray]; exact E2.out)
            have d3 : x1.cell? ⟨wr.heap.size, 3, none⟩ = some (.string y3) := (U1.out.cell 0 rfl 3).trans (by rw [List.getElem?_toArray]; exact E3.out)
            have d4 : x1.cell? ⟨wr.heap.size, 4, none⟩ = some (.string y4) := (U1.out.cell 0 rfl 4).trans (by rw [List.getElem?_toArray]; exact E4.out)
            have n0 : x1.cell? ⟨w.heap.size + 1, 0, none⟩ = some (.bool r) := T4.out.cell 1 rfl 0
            have n1 : x1.cell? ⟨w.heap.size + 1, 1, none⟩ = some (.string me) := T4.out.cell 1 rfl 1
            have n2 : x1.cell? ⟨w.heap.size + 1, 2, none⟩ = some (.string ta) := T4.out.cell 1 rfl 2
            have n3 : x1.cell? ⟨w.heap.size + 1, 3, none⟩ = some (.int .i64 mi) := T4.out.cell 1 rfl 3
            have n4 : x1.cell? ⟨w.heap.size + 1, 4, none⟩ = some (.int .i64 st) := T4.out.cell 1 rfl 4
            have n5 : x1.cell? ⟨w.heap.size + 1, 5, none⟩ = some (.string re) := T4.out.cell 1 rfl 5
            have n6 : x1.cell? ⟨w.heap.size + 1, 6, none⟩ = some (.slice a0 A.length c0) := T4.out.cell 1 rfl 6
            go_wp2_with fail
            refine (HTK.out _ U1.out.b).mono ?_
            rintro e w5 ⟨rfl, bb⟩
            have HB2 := hide (HB1.out.trans (bb.mono HB1.out.size))
            clear bb d0 d1x d2x d3 d4 n0 n1 n2 n3 n4 n5 n6 U1 HB1 HTK T4
            go_wp2_with fail
            go_roundw
            case rel => exact ⟨k + 1, by omega, by go_num, by rw [HNX.out]; rfl, HB2⟩
            case measure => simp [intOf]; omega
        · obtain rfl : k = n := by omega
          have T4 := hide (T3.out.below HB.out)
          clear T3 HB
          by_cases hO : fndT R me A host path k = []
          · have HX := HZ.out
            rw [if_pos hO] at HX
            cases HX
            have t0 : decide (fndT R me A host path k ≠ []) = false := decide_eq_false (fun h => h hO)
            rw [t0]
            clear t0 hO HZ
            go_wp2_with fail
            refine (HSP.out wr T4.out.b).mono ?_
            rintro e w9 ⟨rfl, bb⟩
            have T9 := hide (T4.out.below bb)
            clear bb
            go_wp2
            go_ret
            exact ⟨rfl, T9.out.b⟩
          · have HX := HZ.out
            rw [if_neg hO] at HX
            have t0 : decide (fndT R me A host path k ≠ []) = true := decide_eq_true hO
            rw [t0]
            have hbf := HBF.out (by rw [Hn.out]; exact hO)
            obtain ⟨m, hm, emx, htm, hbest⟩ := hbf
            rw [Hn.out] at emx
            rw [emx] at HX
            cases HX
            clear t0 hO HZ emx HBF
            have HBS := hide hbest
            have hmk : m < k := by rw [← Hn.out]; exact hm
            skip
            obtain ⟨c8, g, o, b1, d1, b2, l2, d2, e9, HM1, rg⟩ := rt_at (HRR.out wr T4.out.b) hm
            rw [Hn.out] at e9
            simp only [Value.slice.injEq, true_and] at e9
            obtain ⟨rfl, rfl⟩ := e9
            have HSR := hide HM1
            have v0 : wr.cell? ⟨g, o + m * 21, none⟩ = some (.string R[m].ho) := by simpa using rg 0 _ rfl
            have v1 : wr.cell? ⟨g, o + m * 21 + 1, none⟩ = some (.string R[m].pf) := rg 1 _ rfl
            have v2 : wr.cell? ⟨g, o + m * 21 + 2, none⟩ = some (.slice b1 R[m].M.length d1) := rg 2 _ rfl
            have v3 : wr.cell? ⟨g, o + m * 21 + 3, none⟩ = some (.string R[m].hd) := rg 3 _ rfl
            have v4 : wr.cell? ⟨g, o + m * 21 + 4, none⟩ = some (.string R[m].va) := rg 4 _ rfl
            have HSZm := hide (HRS.out _ (List.getElem_mem hm))
            have HPMm := hide (hRB _ (List.getElem_mem hm))
            clear HM1 rg
            generalize R[m] = ym at *
            have HTM : Hid (∀ W, Below wr.heap.size wr W → Calls Tryz.prog 10 #[.agg #[.string ym.ho, .string ym.pf, .slice b1 ym.M.length d1, .string ym.hd, .string ym.va], .agg #[.bool r, .string me, .string ta, .int .i64 mi, .int .i64 st, .string re, .slice a0 A.length c0], .string host, .string path] W fun e w' => e = .returned (.bool true) ∧ Below W.heap.size W w') := hide (fun W hW => by
              have hq := takes_any W ym.ho ym.pf (.slice b1 ym.M.length d1) ym.M ym.hd ym.va r me ta mi st re (.slice a0 A.length c0) A host path (HSR.out.below hW) (by have := HPMm.out.2; omega) (HFL.out W (T4.out.b.trans (hW.mono T4.out.b.size))) HSM.out HSZm.out.ho (by have := HPMm.out.1; omega) HSZm.out.hd HHS.out
              rw [show takB ym.ho ym.pf ym.M ym.hd ym.va me A host path = true from htm] at hq
              exact hq)
            clear HSR HSZm HPMm htm hm
            generalize ym.M.length = mm at *
            generalize ym.ho = z0 at *
            generalize ym.pf = z1 at *
            generalize ym.hd = z3 at *
            generalize ym.va = z4 at *
            have n0 : wr.cell? ⟨w.heap.size + 1, 0, none⟩ = some (.bool r) := T4.out.cell 1 rfl 0
            have n1 : wr.cell? ⟨w.heap.size + 1, 1, none⟩ = some (.string me) := T4.out.cell 1 rfl 1
            have n2 : wr.cell? ⟨w.heap.size + 1, 2, none⟩ = some (.string ta) := T4.out.cell 1 rfl 2
            have n3 : wr.cell? ⟨w.heap.size + 1, 3, none⟩ = some (.int .i64 mi) := T4.out.cell 1 rfl 3
            have n4 : wr.cell? ⟨w.heap.size + 1, 4, none⟩ = some (.int .i64 st) := T4.out.cell 1 rfl 4
            have n5 : wr.cell? ⟨w.heap.size + 1, 5, none⟩ = some (.string re) := T4.out.cell 1 rfl 5
            have n6 : wr.cell? ⟨w.heap.size + 1, 6, none⟩ = some (.slice a0 A.length c0) := T4.out.cell 1 rfl 6
            have c1 : wr.cell? ⟨w.heap.size, 1, none⟩ = some (.slice (some ⟨g, o, none⟩) k k2) := (T4.out.cell 0 rfl 1).trans (by rw [List.getElem?_toArray]; exact HC1.out)
            have C1 := cw_cell c1; have V0 := cw_cell v0; have V1 := cw_cell v1; have V2 := cw_cell v2; have V3 := cw_cell v3; have V4 := cw_cell v4
            have N0 := cw_cell n0; have N1 := cw_cell n1; have N2 := cw_cell n2; have N3 := cw_cell n3; have N4 := cw_cell n4; have N5 := cw_cell n5; have N6 := cw_cell n6
            have HG := hide (fun u : Sw wr => call_cw (HTM.out (cw u) (cw_b u)))
            have q1 : decide ((m : Int) < 0) = false := decide_eq_false (by omega)
            have q2 : decide ((k : Int) ≤ (m : Int)) = false := decide_eq_false (by omega)
            have q3 : decide (k ≤ m) = false := decide_eq_false (by omega)
            have hm0 : (0 : Int) ≤ (m : Int) := by omega
            have hm1 : (m : Int) < (k : Int) := by omega
            clear c1 v2 v3 v4 n0 n1 n2 n3 n4 n5 n6
            go_upto_region 13 with fail
            refine wp_region_cw (by kernel_rfl) (by kernel_rfl) ?_
            repeat (go_big_quiet_step ((go_at_call 10; refine HG.out _)))
            refine wpQuiet_nil ?_
            intro _ hw'
            obtain ⟨z, hw''⟩ := hw'
            subst hw''
            have HB5 := hide (cw_b z)
            have T5 := hide (T4.out.below (cw_b z))
            have v0 := cw_cell v0 z
            have v1 := cw_cell v1 z
            clear T4 C1 V0 V1 V2 V3 V4 N0 N1 N2 N3 N4 N5 N6 HG q1 q2 q3 HTM
            generalize cw z = wz at *
            have c1 : wz.cell? ⟨w.heap.size, 1, none⟩ = some (.slice (some ⟨g, o, none⟩) k k2) := (T5.out.cell 0 rfl 1).trans (by rw [List.getElem?_toArray]; exact HC1.out)
            go_wp2
            clear c1
            have HV0 := hide v0
            have HV1 := hide v1
            clear v0 v1
            go_loopw [100] (fun i wr => ∃ j : Nat, j ≤ k ∧ i = .int .i64 j ∧ Hid (Below wz.heap.size wz wr)) (fun i _ => k - (intOf i).toNat)
            case atStart => exact ⟨0, Nat.zero_le _, rfl, hide (Below.refl _ _)⟩
            case round =>
              obtain ⟨j, hj, rfl, HB⟩ := hrel
              by_cases hlt : j < k
              · have hjl : j < R.length := by rw [Hn.out]; exact hlt
                have HB0 := hide (T5.out.b.trans (HB.out.mono T5.out.b.size))
                obtain ⟨c9, g9, o9, b1, d1, b2, l2, d2, e9, HM1, rg⟩ := rt_at (HRR.out wr HB0.out) hjl
                rw [Hn.out] at e9
                simp only [Value.slice.injEq, Option.some.injEq, Addr.mk.injEq, true_and, and_true] at e9
                obtain ⟨⟨rfl, rfl⟩, rfl⟩ := e9
                have HSR := hide HM1
                have HRG := hide rg
                have HSZ := hide (HRS.out _ (List.getElem_mem hjl))
                have HPM := hide (hRB _ (List.getElem_mem hjl))
                have HBJ := hide (HBS.out j hjl)
                clear HM1 rg
                generalize R[j] = y at *
                have HTK : Hid (∀ W, Below wr.heap.size wr W → Calls Tryz.prog 10 #[.agg #[.string y.ho, .string y.pf, .slice b1 y.M.length d1, .string y.hd, .string y.va], .agg #[.bool r, .string me, .string ta, .int .i64 mi, .int .i64 st, .string re, .slice a0 A.length c0], .string host, .string path] W fun e w' => e = .returned (.bool (takR y me A host path)) ∧ Below W.heap.size W w') := hide (fun W hW =>
                  takes_any W y.ho y.pf (.slice b1 y.M.length d1) y.M y.hd y.va r me ta mi st re (.slice a0 A.length c0) A host path (HSR.out.below hW) (by have := HPM.out.2; omega) (HFL.out W (HB0.out.trans (hW.mono HB0.out.size))) HSM.out HSZ.out.ho (by have := HPM.out.1; omega) HSZ.out.hd HHS.out)
                have e0 : (rtC y (.slice b1 y.M.length d1) (.slice b2 l2 d2))[0]? = some (.string y.ho) := rfl
                have e1 : (rtC y (.slice b1 y.M.length d1) (.slice b2 l2 d2))[1]? = some (.string y.pf) := rfl
                have e2 : (rtC y (.slice b1 y.M.length d1) (.slice b2 l2 d2))[2]? = some (.slice b1 y.M.length d1) := rfl
                have e3 : (rtC y (.slice b1 y.M.length d1) (.slice b2 l2 d2))[3]? = some (.string y.hd) := rfl
                have e4 : (rtC y (.slice b1 y.M.length d1) (.slice b2 l2 d2))[4]? = some (.string y.va) := rfl
                have E0 := hide e0
                have E1 := hide e1
                have E2 := hide e2
                have E3 := hide e3
                have E4 := hide e4
                have X1 := rtC_one y b1 y.M.length d1 b2 l2 d2
                have X21 := rtC_len y (.slice b1 y.M.length d1) (.slice b2 l2 d2)
                have RC21 : (rtC y (.slice b1 y.M.length d1) (.slice b2 l2 d2)).toArray.size = 21 := by rw [List.size_toArray, X21]
                clear e0 e1 e2 e3 e4
                clear HSR HSZ HPM
                generalize takR y me A host path = b at HTK HBJ
                generalize rtC y (.slice b1 y.M.length d1) (.slice b2 l2 d2) = RC at *
                generalize y.M.length = ml at *
                generalize y.ho = y0 at *
                generalize y.pf = y1 at *
                generalize y.hd = y3 at *
                generalize y.va = y4 at *
                go_upto_region 17 with fail
                refine wp_region_lit ?_
                refine wpList_plain rfl fun K hK => ?_
                go_simp
                refine hK _ _ ?_
                clear hK K
                refine wpList_plain rfl fun K hK => ?_
                go_simp
                refine hK _ _ ?_
                clear hK K
                refine wpList_load_mid rfl 41 _ rfl g (o + j * 21) rfl RC _ HRG.out Tryz.underlying41 rfl (by rw [X21]; kernel_rfl) ?_
                simp only [Act.put, List.setIfInBounds_toArray, List.set_cons_zero, List.set_cons_succ]
                refine wpList_plain rfl fun K hK => ?_
                go_simp
                refine hK _ _ ?_
                clear hK K
                refine wpList_plain rfl fun K hK => ?_
                go_simp
                refine hK _ _ ?_
                clear hK K
                refine wpList_store_new rfl 41 _ _ rfl _ RC.toArray rfl rfl (by rw [RC21]; kernel_rfl) (by rw [RC21]; rfl) X1 ?_
                simp only [Act.put]
                refine wpList_nil ?_
                clear HRG
                go_upto_region 18 with fail
                have U1 := hide (Bl.one wr RC.toArray 41)
                have HB1 := hide (HB.out.trans (U1.out.b.mono HB.out.size))
                have T6 := hide (T5.out.below HB1.out)
                have v0 := (HB1.out.cell (p := ⟨g, o + m * 21, none⟩) (World.block_lt_of_cell? wz _ HV0.out)).trans HV0.out
                have v1 := (HB1.out.cell (p := ⟨g, o + m * 21 + 1, none⟩) (World.block_lt_of_cell? wz _ HV1.out)).trans HV1.out
                generalize (wr.alloc (.cells RC.toArray 41)) = x1 at U1 HB1 T6 v0 v1 ⊢
                have d0 : x1.cell? ⟨wr.heap.size, 0, none⟩ = some (.string y0) := (U1.out.cell 0 rfl 0).trans (by rw [List.getElem?_toArray]; exact E0.out)
                have d1x : x1.cell? ⟨wr.heap.size, 1, none⟩ = some (.string y1) := (U1.out.cell 0 rfl 1).trans (by rw [List.getElem?_toArray]; exact E1.out)
                have d2x : x1.cell? ⟨wr.heap.size, 2, none⟩ = some (.slice b1 ml d1) := (U1.out.cell 0 rfl 2).trans (by rw [List.getElem?_toArray]; exact E2.out)
                have d3 : x1.cell? ⟨wr.heap.size, 3, none⟩ = some (.string y3) := (U1.out.cell 0 rfl 3).trans (by rw [List.getElem?_toArray]; exact E3.out)
                have d4 : x1.cell? ⟨wr.heap.size, 4, none⟩ = some (.string y4) := (U1.out.cell 0 rfl 4).trans (by rw [List.getElem?_toArray]; exact E4.out)
                have n0 : x1.cell? ⟨w.heap.size + 1, 0, none⟩ = some (.bool r) := T6.out.cell 1 rfl 0
                have n1 : x1.cell? ⟨w.heap.size + 1, 1, none⟩ = some (.string me) := T6.out.cell 1 rfl 1
                have n2 : x1.cell? ⟨w.heap.size + 1, 2, none⟩ = some (.string ta) := T6.out.cell 1 rfl 2
                have n3 : x1.cell? ⟨w.heap.size + 1, 3, none⟩ = some (.int .i64 mi) := T6.out.cell 1 rfl 3
                have n4 : x1.cell? ⟨w.heap.size + 1, 4, none⟩ = some (.int .i64 st) := T6.out.cell 1 rfl 4
                have n5 : x1.cell? ⟨w.heap.size + 1, 5, none⟩ = some (.string re) := T6.out.cell 1 rfl 5
                have n6 : x1.cell? ⟨w.heap.size + 1, 6, none⟩ = some (.slice a0 A.length c0) := T6.out.cell 1 rfl 6
                have c1 : x1.cell? ⟨w.heap.size, 1, none⟩ = some (.slice (some ⟨g, o, none⟩) k k2) := (T6.out.cell 0 rfl 1).trans (by rw [List.getElem?_toArray]; exact HC1.out)
                have HG := hide (fun u : Sw x1 => call_cw (HTK.out (cw u) (U1.out.b.trans ((cw_b u).mono U1.out.b.size))))
                have C1 := cw_cell c1; have V0 := cw_cell v0; have V1 := cw_cell v1
                have D0 := cw_cell d0; have D1 := cw_cell d1x; have D2 := cw_cell d2x; have D3 := cw_cell d3; have D4 := cw_cell d4
                have N0 := cw_cell n0; have N1 := cw_cell n1; have N2 := cw_cell n2; have N3 := cw_cell n3; have N4 := cw_cell n4; have N5 := cw_cell n5; have N6 := cw_cell n6
                clear c1 v0 v1 d0 d1x d2x d3 d4 n0 n1 n2 n3 n4 n5 n6 HTK E0 E1 E2 E3 E4 X1 X21 RC21 T6 HB0
                generalize wr.heap.size = bq at *
                cases b with
                | false =>
                  clear HBJ
                  refine wp_region_cw (by kernel_rfl) (by kernel_rfl) ?_
                  repeat (go_big_quiet_step ((go_at_call 10; refine HG.out _)))
                  refine wpQuiet_nil ?_
                  intro _ hw'
                  obtain ⟨z, hw''⟩ := hw'
                  subst hw''
                  have HB2 := hide (HB1.out.trans ((cw_b z).mono HB1.out.size))
                  clear C1 V0 V1 D0 D1 D2 D3 D4 N0 N1 N2 N3 N4 N5 N6 HG HB1 U1
                  generalize cw z = wv at *
                  go_wp2_with fail
                  go_roundw
                  case rel => exact ⟨j + 1, by omega, by go_num, HB2⟩
                  case measure => simp [intOf]; omega
                | true =>
                  have es := bytes_eq y0 z0
                  by_cases heq : y0 = z0
                  · obtain ⟨hle, hne⟩ := HBJ.out rfl heq
                    rw [decide_eq_true heq] at es
                    have q1 : decide ((z1.size : Int) < (y1.size : Int)) = false := decide_eq_false (by omega)
                    have q1' : decide (z1.size < y1.size) = false := decide_eq_false (by omega)
                    by_cases hjm : j < m
                    · have hn := hne hjm
                      have q2 : decide ((j : Int) < (m : Int)) = true := decide_eq_true (by omega)
                      have q2' : decide (j < m) = true := decide_eq_true hjm
                      have q3 : ((y1.size : Int) == (z1.size : Int)) = false := beq_eq_false_iff_ne.2 (by omega)
                      have q3' : (y1.size == z1.size) = false := beq_eq_false_iff_ne.2 (by omega)
                      clear HBJ heq hne hle hn hjm
                      refine wp_region_cw (by kernel_rfl) (by kernel_rfl) ?_
                      repeat (go_big_quiet_step ((go_at_call 10; refine HG.out _)))
                      refine wpQuiet_nil ?_
                      intro _ hw'
                      obtain ⟨z, hw''⟩ := hw'
                      subst hw''
                      have HB2 := hide (HB1.out.trans ((cw_b z).mono HB1.out.size))
                      clear C1 V0 V1 D0 D1 D2 D3 D4 N0 N1 N2 N3 N4 N5 N6 HG HB1 U1
                      generalize cw z = wv at *
                      go_wp2_with fail
                      go_roundw
                      case rel => exact ⟨j + 1, by omega, by go_num, HB2⟩
                      case measure => simp [intOf]; omega
                    · have q2 : decide ((j : Int) < (m : Int)) = false := decide_eq_false (by omega)
                      have q2' : decide (j < m) = false := decide_eq_false hjm
                      clear HBJ heq hne hle hjm
                      refine wp_region_cw (by kernel_rfl) (by kernel_rfl) ?_
                      repeat (go_big_quiet_step ((go_at_call 10; refine HG.out _)))
                      refine wpQuiet_nil ?_
                      intro _ hw'
                      obtain ⟨z, hw''⟩ := hw'
                      subst hw''
                      have HB2 := hide (HB1.out.trans ((cw_b z).mono HB1.out.size))
                      clear C1 V0 V1 D0 D1 D2 D3 D4 N0 N1 N2 N3 N4 N5 N6 HG HB1 U1
                      generalize cw z = wv at *
                      go_wp2_with fail
                      go_roundw
                      case rel => exact ⟨j + 1, by omega, by go_num, HB2⟩
                      case measure => simp [intOf]; omega
                  · rw [decide_eq_false heq] at es
                    clear HBJ heq
                    refine wp_region_cw (by kernel_rfl) (by kernel_rfl) ?_
                    repeat (go_big_quiet_step ((go_at_call 10; refine HG.out _)))
                    refine wpQuiet_nil ?_
                    intro _ hw'
                    obtain ⟨z, hw''⟩ := hw'
                    subst hw''
                    have HB2 := hide (HB1.out.trans ((cw_b z).mono HB1.out.size))
                    clear C1 V0 V1 D0 D1 D2 D3 D4 N0 N1 N2 N3 N4 N5 N6 HG HB1 U1
                    generalize cw z = wv at *
                    go_wp2_with fail
                    go_roundw
                    case rel => exact ⟨j + 1, by omega, by go_num, HB2⟩
                    case measure => simp [intOf]; omega
              · obtain rfl : j = k := by omega
                have T9 := hide (T5.out.below HB.out)
                go_wp2_with fail
                refine (HSP.out wr T9.out.b).mono ?_
                rintro e w9 ⟨rfl, bb⟩
                have T10 := hide (T9.out.below bb)
                clear bb
                go_wp2
                go_ret
                exact ⟨rfl, T10.out.b⟩
    · have HZ := HY.out
      rw [if_pos h0] at HZ
      have t0 : (e0 == 0) = false := beq_eq_false_iff_ne.2 h0
      cases HZ
      clear h0 HY
      go_wp2_with fail
      refine (HSP.out w3 T3.out.b).mono ?_
      rintro e w9 ⟨rfl, bb⟩
      have T9 := hide (T3.out.below bb)
      clear bb
      go_wp2
      go_ret
      exact ⟨rfl, T9.out.b⟩
  · have HY := HO.out
    rw [if_pos hE] at HY
    have t0 : (E == 0) = false := beq_eq_false_iff_ne.2 hE
    have t1 : (E != 0) = true := by rw [bne, t0]; rfl
    cases HY
    clear hE HO HCR
    go_wp2_with fail
    refine (HSP.out w3 T3.out.b).mono ?_
    rintro e w9 ⟨rfl, bb⟩
    have T9 := hide (T3.out.below bb)
    clear bb
    go_wp2
    go_ret
    exact ⟨rfl, T9.out.b⟩
end Go.Proofs.YtacnnomkacfdbaaGreatDoor
