/- YV. -/
import Derived.Test.YtecjlcjaccijpaaGreatDoorYQ
import Derived.Test.YtecjlcjaccijpaaGreatDoorYA
import Derived.Deep.QuietTactic
import Derived.BigQuiet
import Derived.Test.YtecjlcjaccijpaaGreatDoorYR
import Derived.Test.YtecjlcjaccijpaaGreatDoorYU
import Derived.Test.YtecjlcjaccijpaaGreatDoorYF2
namespace Go.Proofs.YtecjlcjaccijpaaGreatDoor
open Go.ChangeShapes Go.WideShapes Go.ChangeAt Go.RowKit
set_option linter.unusedVariables false
set_option maxHeartbeats 16000000
set_option maxRecDepth 100000
structure Hi where
 r : Bool
 me : ByteArray
 ta : ByteArray
 mi : Int
 st : Int
 re : ByteArray
 fs : List (ByteArray × ByteArray)
def hiV (h : Hi) (l : Value) : Value := .agg #[.bool h.r, .string h.me, .string h.ta, .int .i64 h.mi, .int .i64 h.st, .string h.re, l]
def hiEq (a b : Hi) : Bool := (a.r == b.r) && (decide (a.me = b.me) && (decide (a.ta = b.ta) && (decide (a.mi = b.mi) && (decide (a.st = b.st) && (decide (a.re = b.re) && decide (a.fs = b.fs))))))
theorem hiEq_iff {a b : Hi} : hiEq a b = true ↔ a = b := by
 unfold hiEq
 simp only [Bool.and_eq_true, beq_iff_eq, decide_eq_true_eq]
 constructor
 ·rintro ⟨h1, h2, h3, h4, h5, h6, h7⟩
  cases a; cases b
  simp only at h1 h2 h3 h4 h5 h6 h7
  subst h1 h2 h3 h4 h5 h6 h7
  rfl
 ·rintro rfl; exact ⟨rfl, rfl, rfl, rfl, rfl, rfl, rfl⟩
theorem take_snocP {α : Type} (A : List α) (k : Nat) (h : k < A.length) : A.take (k + 1) = A.take k ++ [A[k]] := List.take_succ_eq_append_getElem h
theorem plainF_any (w : World) (a b : Value) (A B : List (ByteArray × ByteArray)) (hA : Flds w a A) (hB : Flds w b B) (hl : A.length <= 1099511627776) (hl2 : B.length <= 1099511627776) :
  Calls Tryz.prog 33 #[a, b] w fun e w' => e = .returned (.bool (decide (A = B))) /\ Below w.heap.size w w' := by
 obtain ⟨a0, c0, rfl, _, hca⟩ := hA
 obtain ⟨b0, d0, rfl, _, hcb⟩ := hB
 have HA := hide hca
 have HB := hide hcb
 clear hca hcb
 obtain ⟨D, hD⟩ : ∃ D, decide (A = B) = D := ⟨_, rfl⟩
 rw [hD]
 have HD := hide hD
 clear hD
 by_cases hn : A.length = B.length
 ·have t : ((A.length : Int) != (B.length : Int)) = false := by rw [bne_eq_false_iff_eq]; omega
  have hl3 : B.length <= A.length := by omega
  have hl4 : A.length <= B.length := by omega
  clear hn
  go_enter Tryz.func33, Tryz.ntmps33
  go_wp2
  go_loopw [13] (fun i wr => ∃ k : Nat, k <= A.length /\ i = .int .i64 k /\ Hid (A.take k = B.take k) /\ Hid (∃ n, wr = w.drewN n)) (fun i _ => A.length - (intOf i).toNat)
  case atStart => exact ⟨0, Nat.zero_le _, rfl, hide rfl, hide ⟨0, rfl⟩⟩
  case round =>
   obtain ⟨k, hk, rfl, H, HW⟩ := hrel
   by_cases hlt : k < A.length
   ·have hlb : k < B.length := by omega
    obtain ⟨g1, o1, rfl, _, q1, q2⟩ := HA.out k hlt
    obtain ⟨g2, o2, rfl, _, q3, q4⟩ := HB.out k hlb
    obtain ⟨n, hwn⟩ := HW.out
    subst hwn
    have hsa := hide (take_snocP A k hlt)
    have hsb := hide (take_snocP B k hlb)
    obtain ⟨⟨fa, fb⟩, hf⟩ : ∃ f, A[k] = f := ⟨_, rfl⟩
    obtain ⟨⟨ga, gb⟩, hg⟩ : ∃ f, B[k] = f := ⟨_, rfl⟩
    have HNE : Hid ((fa, fb) ≠ (ga, gb) -> A ≠ B) := hide (by rintro hne rfl; exact hne (hf.symm.trans hg))
    rw [hf] at q1 q2 hsa
    rw [hg] at q3 q4 hsb
    dsimp only at q1 q2 q3 q4
    clear hf hg
    have e1 := bytes_eq fa ga
    have e2 := bytes_eq fb gb
    by_cases h1 : fa = ga
    ·subst h1
     clear e1
     by_cases h2 : fb = gb
     ·subst h2
      clear e2
      have HT : Hid (A.take (k + 1) = B.take (k + 1)) := hide (by rw [hsa.out, hsb.out, H.out])
      go_wp2
      go_quiet (fail)
      go_wp2
      exact ⟨⟨k + 1, by omega, by go_num, HT, hide ⟨n + nq, rfl⟩⟩, by simp [intOf]; omega⟩
     ·have t2 : (fb.toList == gb.toList) = false := by rw [e2]; exact decide_eq_false h2
      have HE : Hid (A ≠ B) := hide (HNE.out (fun e => h2 (Prod.mk.inj e).2))
      clear e2 h2
      go_wp2
      go_quiet (fail)
      go_wp2
      go_ret
      exact ⟨ret_bool (by rw [<- HD.out]; exact (decide_eq_false HE.out).symm), by rw [World.drewN_drewN]; exact below_drewN w _⟩
    ·have t1 : (fa.toList == ga.toList) = false := by rw [e1]; exact decide_eq_false h1
     have HE : Hid (A ≠ B) := hide (HNE.out (fun e => h1 (Prod.mk.inj e).1))
     clear e1 e2 h1
     go_wp2
     go_quiet (fail)
     go_wp2
     go_ret
     exact ⟨ret_bool (by rw [<- HD.out]; exact (decide_eq_false HE.out).symm), by rw [World.drewN_drewN]; exact below_drewN w _⟩
   ·have HE : Hid (A = B) := hide (by
     have := H.out
     rw [List.take_of_length_le (by omega), List.take_of_length_le (by omega)] at this
     exact this)
    obtain ⟨n, hwn⟩ := HW.out
    subst hwn
    go_wp2
    go_ret
    exact ⟨ret_bool (by rw [<- HD.out]; exact (decide_eq_true HE.out).symm), below_drewN w _⟩
 ·have t : ((A.length : Int) != (B.length : Int)) = true := by rw [bne_iff_ne]; omega
  have HE : Hid (A ≠ B) := hide (by rintro rfl; exact hn rfl)
  clear hn
  go_enter Tryz.func33, Tryz.ntmps33
  go_wp2
  go_ret
  exact ⟨ret_bool (by rw [<- HD.out]; exact (decide_eq_false HE.out).symm), Below.refl _ _⟩
theorem plainH_any (w : World) (X Y : Hi) (la lb : Value) (hA : Flds w la X.fs) (hB : Flds w lb Y.fs) (hl : X.fs.length <= 1099511627776) (hl2 : Y.fs.length <= 1099511627776) :
  Calls Tryz.prog 18 #[hiV X la, hiV Y lb] w fun e w' => e = .returned (.bool (hiEq X Y)) /\ Below w.heap.size w w' := by
 have FA := hide hA
 have FB := hide hB
 obtain ⟨D, hD⟩ : ∃ D, hiEq X Y = D := ⟨_, rfl⟩
 rw [hD]
 unfold hiEq at hD
 have HC := hide (fun W (h1 : Flds W la X.fs) (h2 : Flds W lb Y.fs) => plainF_any W la lb X.fs Y.fs h1 h2 hl hl2)
 unfold hiV
 obtain ⟨aa, ac, rfl, _, _⟩ := hA
 obtain ⟨ba, bc, rfl, _, _⟩ := hB
 clear hl hl2
 obtain ⟨ar, ame, ata, ami, ast, are, A⟩ := X
 obtain ⟨br, bme, bta, bmi, bst, bre, B⟩ := Y
 dsimp only at *
 generalize decide (A = B) = d7 at hD HC
 generalize A.length = an at FA HC
 generalize B.length = bn at FB HC
 have HD := hide hD
 clear hD
 have e1 := bytes_eq ame bme
 have e2 := bytes_eq ata bta
 have e5 := bytes_eq are bre
 by_cases h0 : ar = br
 ·subst h0
  by_cases h1 : ame = bme
  ·subst h1
   clear e1
   by_cases h2 : ata = bta
   ·subst h2
    clear e2
    by_cases h3 : ami = bmi
    ·subst h3
     by_cases h4 : ast = bst
     ·subst h4
      by_cases h5 : are = bre
      ·subst h5
       clear e5
       go_enter Tryz.func18, Tryz.ntmps18
       go_wp2_with fail
       have T0 := hide (Bl.two w #[.bool ar, .string ame, .string ata, .int .i64 ami, .int .i64 ast, .string are, .slice aa an ac] 27 #[.bool ar, .string ame, .string ata, .int .i64 ami, .int .i64 ast, .string are, .slice ba bn bc] 27)
       generalize ((w.alloc (.cells #[.bool ar, .string ame, .string ata, .int .i64 ami, .int .i64 ast, .string are, .slice aa an ac] 27)).alloc (.cells #[.bool ar, .string ame, .string ata, .int .i64 ami, .int .i64 ast, .string are, .slice ba bn bc] 27)) = x at T0 |-
       refine (HC.out _ (FA.out.below T0.out.b) (FB.out.below T0.out.b)).mono ?_
       rintro e w1 ⟨rfl, bb⟩
       have T1 := hide (T0.out.below bb)
       clear bb
       go_wp2
       go_ret
       exact ⟨ret_bool (by rw [<- HD.out]; simp), T1.out.b⟩
      ·have t5 : (are.toList == bre.toList) = false := by rw [e5]; exact decide_eq_false h5
       have HN := hide h5
       clear e5 h5
       go_enter Tryz.func18, Tryz.ntmps18
       go_wp2
       go_ret
       exact ⟨ret_bool (by rw [<- HD.out]; simp [HN.out]), (Bl.two w _ _ _ _).b⟩
     ·have HN := hide h4
      clear e5
      have t4 : (ast == bst) = false := beq_eq_false_iff_ne.2 h4
      go_enter Tryz.func18, Tryz.ntmps18
      go_wp2
      go_ret
      exact ⟨ret_bool (by rw [<- HD.out]; simp [HN.out]), (Bl.two w _ _ _ _).b⟩
    ·have HN := hide h3
     clear e5
     have t3 : (ami == bmi) = false := beq_eq_false_iff_ne.2 h3
     go_enter Tryz.func18, Tryz.ntmps18
     go_wp2
     go_ret
     exact ⟨ret_bool (by rw [<- HD.out]; simp [HN.out]), (Bl.two w _ _ _ _).b⟩
   ·have t2 : (ata.toList == bta.toList) = false := by rw [e2]; exact decide_eq_false h2
    have HN := hide h2
    clear e2 e5 h2
    go_enter Tryz.func18, Tryz.ntmps18
    go_wp2
    go_ret
    exact ⟨ret_bool (by rw [<- HD.out]; simp [HN.out]), (Bl.two w _ _ _ _).b⟩
  ·have t1 : (ame.toList == bme.toList) = false := by rw [e1]; exact decide_eq_false h1
   have HN := hide h1
   clear e1 e2 e5 h1
   go_enter Tryz.func18, Tryz.ntmps18
   go_wp2
   go_ret
   exact ⟨ret_bool (by rw [<- HD.out]; simp [HN.out]), (Bl.two w _ _ _ _).b⟩
 ·have t0 : (ar == br) = false := beq_eq_false_iff_ne.2 h0
  have HN := hide h0
  clear e1 e2 e5
  cases ar <;> cases br <;> first | exact absurd rfl h0 | skip
  all_goals (clear h0 t0)
  all_goals (go_enter Tryz.func18, Tryz.ntmps18)
  all_goals (go_wp2)
  all_goals (go_ret)
  all_goals (exact ⟨ret_bool (by rw [<- HD.out]; rfl), (Bl.two w _ _ _ _).b⟩)
def Sw (w : World) : Type := { W : World // Below w.heap.size w W }
instance Sw.some (w : World) : Nonempty (Sw w) := ⟨⟨w, Below.refl _ _⟩⟩
def cw {w : World} (u : Sw w) : World := u.1
theorem cw_b {w : World} (u : Sw w) : Below w.heap.size w (cw u) := u.2
theorem cw_cell {w : World} {a : Addr} {v : Value} (h : w.cell? a = some v) (u : Sw w) : (cw u).cell? a = some v := ((cw_b u).cell (World.block_lt_of_cell? w a h)).trans h
theorem call_cw {P : Program} {f : Nat} {args : Array Value} {w : World} {u : Sw w} {r : Value} (c : Calls P f args (cw u) fun e w' => e = .returned r /\ Below (cw u).heap.size (cw u) w') : Calls P f args (cw u) fun e w' => e = .returned r /\ ∃ u' : Sw w, w' = cw u' :=
 c.mono fun _ w' ⟨h1, h2⟩ => ⟨h1, ⟨w', (cw_b u).trans (h2.mono (cw_b u).size)⟩, rfl⟩
theorem wp_region_cw {P : Program} {id : Nat} {Q : Exit -> Act -> World -> Prop} {a : Act} {w : World} {l : List Oper} (hm : P.follows .mixedOrders = true) (hB : Region.lexB .any l.toArray = true)
  (h : wpQuiet P l.toArray (fun W => ∃ u : Sw w, W = cw u) (fun a' => ∀ w', (∃ u : Sw w, w' = cw u) -> Q .normal a' w') l a) : (Code.region id l.toArray true).wp P Q a w :=
 wp_region_quiet (C := fun W => ∃ u : Sw w, W = cw u) hm hB ⟨⟨w.drew, (Below.refl _ w).drew⟩, rfl⟩ (by simpa using h)
theorem askE_zero {me : ByteArray} {mo : Int} (h : askE me mo = 0) : tokenB me.data.toList = true /\ 16 <= mo /\ mo <= 65536 := by
 unfold askE at h
 split at h
 ·rename_i h1
  split at h
  ·rename_i h2
   simp only [Bool.and_eq_true, decide_eq_true_eq] at h2
   exact ⟨h1, h2⟩
  ·cases h
 ·cases h
structure Stp (me : ByteArray) (M : Nat) (l : List UInt8) (N : Nat) (p : Pz) (fo : Fo) (i Ni k : Nat) (q : Pz) : Prop where
 hi : i <= 8
 hw : q.whole = true
 hP : pBytes (pNew false M) (l.drop Ni) = (0, k, q)
 lt : Ni + k <= N
 pos : 1 <= k
 alt : (200 <= q.status /\ (uO me q).e = 0 /\ N = Ni + k /\ p = q /\ fo = uO me q) ∨ (q.status < 200 /\ i < 8 /\ uHd me M (9 - (i + 1)) (Ni + k) (l.drop (Ni + k)) = .got N p fo)
theorem stp_of {me : ByteArray} {M : Nat} {l : List UInt8} {N : Nat} {p : Pz} {fo : Fo} {i Ni : Nat} (hi : i <= 8) (h : uHd me M (9 - i) Ni (l.drop Ni) = .got N p fo) : ∃ k q, Stp me M l N p fo i Ni k q := by
 have hf : 9 - i = (8 - i) + 1 := by omega
 rw [hf] at h
 obtain ⟨k, q, H, hw, hP, alt⟩ := uHd_first h
 refine ⟨k, q, hi, hw, hP, ?_, H.pos, ?_⟩
 ·rcases alt with ⟨-, -, rfl, -⟩ | ⟨-, -, -, h4⟩
  ·exact Nat.le_refl _
  ·exact Nat.le_of_lt (uHd_le h4).1
 ·rcases alt with h1 | ⟨h1, h2, h3, h4⟩
  ·exact .inl h1
  ·rw [List.drop_drop] at h4
   exact .inr ⟨h1, by omega, by rw [show 9 - (i + 1) = 8 - i by omega]; exact h4⟩
theorem rr_got (W : World) (M : Nat) (hM : M <= 65536) (vb : Value) (li : List UInt8) (hB : Bs W W.heap.size vb li) (hl : li.length <= 140737488355328) {k : Nat} {q : Pz} (hP : pBytes (pNew false M) li = (0, k, q)) (hw : q.whole = true) :
  Calls Tryz.prog 17 #[.bool false, .int .i64 (M : Int), vb] W fun e w' => ∃ ua uc, e = .returned (.tuple #[.agg #[.bool q.req, .string q.me, .string q.ta, .int .i64 (q.minor : Int), .int .i64 (q.status : Int), .string q.re, .slice ua q.fs.length uc], .int .i64 (k : Int), .bool true, .int .i64 0]) /\ Below W.heap.size W w' := by
 refine (rread_any W false M hM vb li hB hl).mono ?_
 rintro e w' ⟨u, rfl, h1, h2⟩
 rw [hP] at h1 |-
 have e1 : rdW (0, k, q) = true := by unfold rdW; simp [hw]
 have e2 : rdH (0, k, q) = q.hx := by unfold rdH; rw [if_pos e1]
 rw [e2] at h1 |-
 rw [e1]
 obtain ⟨ua, uc, rfl, -⟩ := h1.shape
 exact ⟨ua, uc, rfl, h2⟩
theorem y_conv (w : World) (s : ByteArray) : ∃ cap W, (convert 9 24 (.string s)).run Tryz.prog w = .ok (.slice (some ⟨w.heap.size, 0, none⟩) s.size cap) W /\ Bs W W.heap.size (.slice (some ⟨w.heap.size, 0, none⟩) s.size cap) s.data.toList /\ Below w.heap.size w W /\ s.size <= cap /\ w.heap.size < W.heap.size := by
 have hconv := run_bytes_of_string (P := Tryz.prog) w 9 24 5 s Tryz.underlying9 Tryz.underlying24 Tryz.underlying5
 have hge := grownCap_ge w s.size 0 5
 generalize grownCap w s.size 0 5 = cap at hconv hge
 refine ⟨cap, _, hconv, ⟨some ⟨w.heap.size, 0, none⟩, cap, by rw [size_len], by rw [size_len]; exact hge, fun j hj => ?_⟩, ((Below.refl _ w).drew).alloc (Nat.le_refl _) _, hge, lt_heap (hp_new w.drew (.cells (bytesRow s cap) 5 ((bytesRow s cap).size, (bytesRow s cap).size + 1)))⟩
 have hb := hp_new w.drew (.cells (bytesRow s cap) 5 ((bytesRow s cap).size, (bytesRow s cap).size + 1))
 refine ⟨w.heap.size, 0, rfl, lt_heap hb, lt_heap hb, ?_⟩
 have hj2 : j < s.data.size := by simpa using hj
 have hc := cell_at (w := w.drew.alloc (.cells (bytesRow s cap) 5 ((bytesRow s cap).size, (bytesRow s cap).size + 1))) (b := w.heap.size) hb (0 + j)
 rw [hc, Nat.zero_add, bytesRow_at s cap j hj2]
 simp
theorem hd_fz {w : World} {b : Nat} {r : Bool} {me ta : ByteArray} {mi st : Int} {re : ByteArray} {l : Value} (h : w.heap[b]? = some (.cells (hdA r me ta mi st re l) 27 (0, 0))) (i : Nat) : w.frozen? ⟨b, i, none⟩ = false := by rw [frozen_at h]; simp
theorem sS_103 (j : Nat) : sS (s103s j) ++ ⟨#[72, 84, 84, 80, 47, 49, 46, 49, 32, 49, 48, 51, 32, 88, 13, 10, 13, 10]⟩ = sS (s103s (j + 1)) := by
 rw [s103s]
 apply ByteArray.ext
 simp [sS, s103]
theorem yapp_list (a b : ByteArray) : (a ++ b).data.toList = a.data.toList ++ b.data.toList := by simp
end Go.Proofs.YtecjlcjaccijpaaGreatDoor
