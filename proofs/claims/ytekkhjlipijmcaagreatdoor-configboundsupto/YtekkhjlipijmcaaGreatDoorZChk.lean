/- Whether a configuration is right: the program's. -/
import Derived.Test.YtekkhjlipijmcaaGreatDoorZAtt
import Derived.Test.YtekkhjlipijmcaaGreatDoorZRest
import Derived.Test.YtekkhjlipijmcaaGreatDoorQZ1
namespace Go.Proofs.YtekkhjlipijmcaaGreatDoor
open Go.ChangeShapes Go.WideShapes Go.ChangeAt Go.RowKit
set_option linter.unusedVariables false

/-- A configuration. -/
structure Cfg where
  H : List Hst
  R : List Rt
  pa : ByteArray
  c0 : Int
  c1 : Int
  c2 : Int
  c3 : Int
  c4 : Int
  c5 : Int
  c6 : Int
  c7 : Int
  c8 : Int
  c9 : Int
  c10 : Int
  c11 : Int
  c12 : Int
  c13 : Int
  c14 : Int
def cfgB (C : Cfg) : Bool := hostsB C.H && (routesB C.R (C.H.length : Int) && restB C.pa C.c0 C.c1 C.c2 C.c3 C.c4 C.c5 C.c6 C.c7 C.c8 C.c9 C.c10 C.c11 C.c12 C.c13 C.c14)
def cfgE (C : Cfg) : Int := if cfgB C then 0 else 3
def cfgV (a1 a2 : Option Addr) (k1 k2 : Nat) (C : Cfg) : Value := .agg #[.slice a1 C.H.length k1, .slice a2 C.R.length k2, .int .i64 C.c0, .int .i64 C.c1, .int .i64 C.c2, .int .i64 C.c3, .string C.pa, .int .i64 C.c4, .int .i64 C.c5, .int .i64 C.c6, .int .i64 C.c7, .int .i64 C.c8, .int .i64 C.c9, .int .i64 C.c10, .int .i64 C.c11, .int .i64 C.c12, .int .i64 C.c13, .int .i64 C.c14]
/-- A configuration that came in, and the tables of ranges. -/
structure InC (w : World) (a1 a2 : Option Addr) (k1 k2 : Nat) (C : Cfg) : Prop where
  h : HRow w (.slice a1 C.H.length k1) C.H
  r : RRow w (.slice a2 C.R.length k2) C.R
  hs : ∀ x ∈ C.H, x.nm.size ≤ 1048576
  rs : ∀ x ∈ C.R, x.Sz
  g0 : RG w 0 hostFits_anyL
  g1 : RG w 1 routeFits_anyL
  g2 : RG w 2 restFits_anyL
  mx : MX w
theorem InC.below {w w' : World} {a1 a2 : Option Addr} {k1 k2 : Nat} {C : Cfg} (h : InC w a1 a2 k1 k2 C) (b : Below w.heap.size w w') : InC w' a1 a2 k1 k2 C :=
  ⟨h.h.below b, h.r.below b, h.hs, h.rs, h.g0.below b, h.g1.below b, h.g2.below b, h.mx.below b⟩

set_option maxHeartbeats 4000000 in
set_option maxRecDepth 100000 in
theorem check_any (w : World) (a1 a2 : Option Addr) (k1 k2 : Nat) (C : Cfg) (h : InC w a1 a2 k1 k2 C) :
    Calls Tryz.prog 11 #[cfgV a1 a2 k1 k2 C] w fun e w' => e = .returned (.int .i64 (cfgE C)) ∧ Below w.heap.size w w' := by
  have H0 := hide h
  clear h
  obtain ⟨E, HE⟩ : ∃ E, Hid (cfgE C = E) := ⟨_, hide rfl⟩
  rw [HE.out]
  unfold cfgE cfgB at HE
  unfold cfgV
  obtain ⟨H, R, pa, c0, c1, c2, c3, c4, c5, c6, c7, c8, c9, c10, c11, c12, c13, c14⟩ := C
  simp only at HE ⊢
  have HH := hide (fun W b => hosts_any W _ H (H0.out.below (w' := W) b).h H0.out.hs (H0.out.below b).g0)
  have HR := hide (fun W b => routes_any W _ R (H.length : Int) (H0.out.below (w' := W) b).r H0.out.rs (H0.out.below b).g1 (H0.out.below b).mx)
  simp only at HH HR
  obtain ⟨n1, Hn1⟩ : ∃ n1, Hid (H.length = n1) := ⟨_, hide rfl⟩
  obtain ⟨n2, Hn2⟩ : ∃ n2, Hid (R.length = n2) := ⟨_, hide rfl⟩
  rw [Hn1.out] at HH HR HE ⊢
  rw [Hn2.out] at HR ⊢
  have HT := hide (fun W b => rest_any W a1 n1 k1 a2 n2 k2 pa c0 c1 c2 c3 c4 c5 c6 c7 c8 c9 c10 c11 c12 c13 c14 (H0.out.below (w' := W) b).g2 (H0.out.below b).mx)
  generalize hostsB H = b1 at HH HE
  generalize routesB R (n1 : Int) = b2 at HR HE
  generalize restB pa c0 c1 c2 c3 c4 c5 c6 c7 c8 c9 c10 c11 c12 c13 c14 = b3 at HT HE
  go_enter Tryz.func11, Tryz.ntmps11
  go_upto_region 1 with fail
  have T0 := hide (Bl.one w #[.slice a1 n1 k1, .slice a2 n2 k2, .int .i64 c0, .int .i64 c1, .int .i64 c2, .int .i64 c3, .string pa, .int .i64 c4, .int .i64 c5, .int .i64 c6, .int .i64 c7, .int .i64 c8, .int .i64 c9, .int .i64 c10, .int .i64 c11, .int .i64 c12, .int .i64 c13, .int .i64 c14] 25)
  generalize (w.alloc (.cells #[.slice a1 n1 k1, .slice a2 n2 k2, .int .i64 c0, .int .i64 c1, .int .i64 c2, .int .i64 c3, .string pa, .int .i64 c4, .int .i64 c5, .int .i64 c6, .int .i64 c7, .int .i64 c8, .int .i64 c9, .int .i64 c10, .int .i64 c11, .int .i64 c12, .int .i64 c13, .int .i64 c14] 25)) = x at T0 ⊢
  have m0 : x.cell? ⟨w.heap.size, 0, none⟩ = some (.slice a1 n1 k1) := T0.out.cell 0 rfl 0
  go_wp2_with fail
  refine (HH.out _ T0.out.b).mono ?_
  rintro e w1 ⟨rfl, bb⟩
  have T1 := hide (T0.out.below bb)
  clear bb T0 HH m0
  cases b1
  · have hE : E = 3 := by rw [← HE.out]; rfl
    subst hE
    go_wp2_with fail
    go_ret
    exact ⟨rfl, T1.out.b⟩
  · have m0 : w1.cell? ⟨w.heap.size, 0, none⟩ = some (.slice a1 n1 k1) := T1.out.cell 0 rfl 0
    have m1 : w1.cell? ⟨w.heap.size, 1, none⟩ = some (.slice a2 n2 k2) := T1.out.cell 0 rfl 1
    go_wp2_with fail
    refine (HR.out _ T1.out.b).mono ?_
    rintro e w2 ⟨rfl, bb⟩
    have T2 := hide (T1.out.below bb)
    clear bb T1 HR m0 m1
    cases b2
    · have hE : E = 3 := by rw [← HE.out]; rfl
      subst hE
      go_wp2_with fail
      go_ret
      exact ⟨rfl, T2.out.b⟩
    · have HRA2 : Hid (w2.rangeAt w.heap.size 0 ([.slice a1 n1 k1, .slice a2 n2 k2, .int .i64 c0, .int .i64 c1, .int .i64 c2, .int .i64 c3, .string pa, .int .i64 c4, .int .i64 c5, .int .i64 c6, .int .i64 c7, .int .i64 c8, .int .i64 c9, .int .i64 c10, .int .i64 c11, .int .i64 c12, .int .i64 c13, .int .i64 c14] : List Value)) := hide (by
        intro j v hv
        rw [Nat.zero_add]
        exact (T2.out.cell 0 rfl j).trans (by rw [List.getElem?_toArray]; exact hv))
      rename_i hKK
      refine hKK _ _ ?_
      clear hKK
      refine wpList_want (by kernel_rfl) fun K hK => ?_
      go_simp
      refine hK _ _ ?_
      clear hK K
      refine wpList_want (by kernel_rfl) fun K hK => ?_
      go_simp
      refine hK _ _ ?_
      clear hK K
      refine wpList_want (by kernel_rfl) fun K hK => ?_
      refine wp_load_mid 25 _ rfl w.heap.size 0 rfl ([.slice a1 n1 k1, .slice a2 n2 k2, .int .i64 c0, .int .i64 c1, .int .i64 c2, .int .i64 c3, .string pa, .int .i64 c4, .int .i64 c5, .int .i64 c6, .int .i64 c7, .int .i64 c8, .int .i64 c9, .int .i64 c10, .int .i64 c11, .int .i64 c12, .int .i64 c13, .int .i64 c14] : List Value) _ HRA2.out Tryz.underlying25 rfl (by kernel_rfl) (hK _ _ ?_)
      clear hK K HRA2
      simp only [Act.put, List.setIfInBounds_toArray, List.set_cons_zero, List.set_cons_succ]
      go_wp2_with fail
      refine (HT.out _ T2.out.b).mono ?_
      rintro e w3 ⟨rfl, bb⟩
      have T3 := hide (T2.out.below bb)
      clear bb T2 HT
      cases b3
      · have hE : E = 3 := by rw [← HE.out]; rfl
        subst hE
        go_wp2_with fail
        go_ret
        exact ⟨rfl, T3.out.b⟩
      · have hE : E = 0 := by rw [← HE.out]; rfl
        subst hE
        go_wp2_with fail
        go_ret
        exact ⟨rfl, T3.out.b⟩

/-- What a right configuration is within. -/
structure Wt (C : Cfg) : Prop where
  h0 : 1 ≤ C.H.length
  h1 : C.H.length ≤ 16
  q0 : 1 ≤ C.R.length
  q1 : C.R.length ≤ 16
  ca : ∀ x ∈ C.H, 1 ≤ x.ca ∧ x.ca ≤ 64
  at_ : ∀ x ∈ C.R, (0 ≤ x.r10 ∧ x.r10 ≤ 5) ∧ (0 ≤ x.r11 ∧ x.r11 ≤ 3)
  mh : 16 ≤ C.c8 ∧ C.c8 ≤ 65536
  mb : 0 ≤ C.c9 ∧ C.c9 ≤ 1048576
  mo : 1 ≤ C.c10 ∧ C.c10 ≤ 1048576
  cl : 1 ≤ C.c14 ∧ C.c14 ≤ 256
theorem fit_in {N : List Int} {L : List (Int × Int)} {k m : Nat} {n a b : Int} (hf : fitK N L m = true) (h : (N.zip L)[k]? = some (n, (a, b))) (hk : k < m) : a ≤ n ∧ n ≤ b := by
  cases hb : inB n a b with
  | true => unfold inB at hb; simpa using hb
  | false => rw [fit_no h hk hb] at hf; cases hf
theorem Wt.of {C : Cfg} (h : cfgB C = true) : Wt C := by
  unfold cfgB hostsB routesB restB at h
  simp only [Bool.and_eq_true, decide_eq_true_eq] at h
  obtain ⟨⟨⟨a0, a1⟩, a2, -⟩, ⟨⟨b0, b1⟩, b2⟩, c1, -, -⟩ := h
  refine ⟨a0, a1, b0, b1, fun x hx => ?_, fun x hx => ?_, fit_in c1 (k := 8) rfl (by omega), fit_in c1 (k := 9) rfl (by omega), fit_in c1 (k := 10) rfl (by omega), fit_in c1 (k := 14) rfl (by omega)⟩
  · have := (List.all_eq_true.1 a2) x hx
    unfold okH at this
    rw [Bool.and_eq_true] at this
    exact fit_in this.2 (k := 0) rfl (by omega)
  · have := (List.all_eq_true.1 b2) x hx
    unfold okR at this
    rw [Bool.and_eq_true, Bool.and_eq_true] at this
    exact ⟨fit_in this.2.2 (k := 10) rfl (by omega), fit_in this.2.2 (k := 11) rfl (by omega)⟩
end Go.Proofs.YtekkhjlipijmcaaGreatDoor
