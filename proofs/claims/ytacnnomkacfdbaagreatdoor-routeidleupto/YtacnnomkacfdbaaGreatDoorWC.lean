/- WC: RCov RHost RKind RCov2 RMeth RTakes TClean TKept TCln TRead TRead2 TParse TSays RPlace. -/
import Derived.Test.YtacnnomkacfdbaaGreatDoorWB
import Derived.Test.YtacnnomkacfdbaaGreatDoorWA
import Derived.Lib.SplitLaws
import Derived.Lib.IndexBytes
import Derived.Lib.Join
import Derived.Handy
/- Whether a prefix covers a path; how near a match's host is to a host: the program's, the document's. -/
namespace Go.Proofs.YtacnnomkacfdbaaGreatDoor
open Go.ChangeShapes Go.WideShapes Go.ChangeAt Go.RowKit

theorem pre_iff (s p : ByteArray) : Lib.hasPrefix s.data.toList p.data.toList = decide (p.size ≤ s.size ∧ s.extract 0 p.size = p) := by
  unfold Lib.hasPrefix
  rw [Bool.eq_iff_iff, List.isPrefixOf_iff_prefix, List.prefix_iff_eq_take, decide_eq_true_eq, size_len]
  constructor
  · intro h
    have hl := congrArg List.length h
    rw [List.length_take, size_len, size_len] at hl
    refine ⟨by omega, ?_⟩
    have : (s.extract 0 p.size).data.toList = p.data.toList := by rw [ext_take]; exact h.symm
    cases hh : s.extract 0 p.size; cases p
    rw [hh] at this
    simp only [ByteArray.mk.injEq]
    exact Array.toList_inj.1 this
  · rintro ⟨_, h⟩
    rw [← ext_take, h]
theorem suf_iff (h e : ByteArray) (hl : e.size ≤ h.size) : Lib.hasSuffix h.data.toList e.data.toList = decide (h.extract (h.size - e.size) h.size = e) := by
  unfold Lib.hasSuffix
  rw [Bool.eq_iff_iff, List.isSuffixOf_iff_suffix, List.suffix_iff_eq_drop, decide_eq_true_eq, size_len, size_len]
  constructor
  · intro hh
    have : (h.extract (h.size - e.size) h.size).data.toList = e.data.toList := by rw [ext_drop]; exact hh.symm
    cases h2 : h.extract (h.size - e.size) h.size; cases e
    rw [h2] at this
    simp only [ByteArray.mk.injEq]
    exact Array.toList_inj.1 this
  · intro hh
    rw [← ext_drop, hh]
theorem suf_one (p : ByteArray) (h0 : 0 < p.size) : Lib.hasSuffix p.data.toList [47] = decide (p[p.size - 1].toNat = 47) := by
  unfold Lib.hasSuffix
  rw [Bool.eq_iff_iff, List.isSuffixOf_iff_suffix, List.suffix_iff_eq_drop, decide_eq_true_eq, size_len]
  have e : p.data.toList.drop (p.size - 1) = [p[p.size - 1]] := by
    rw [List.drop_eq_getElem_cons (by rw [size_len]; omega), List.drop_of_length_le (by rw [size_len]; omega)]
    rfl
  rw [show [(47 : UInt8)].length = 1 from rfl, e]
  constructor
  · intro h
    simp only [List.cons.injEq, and_true] at h
    rw [← h]; rfl
  · intro h
    rw [byte_is (n := 47) h (by decide)]
    rfl
theorem pre_one (s : ByteArray) (k : Nat) (h : k < s.size) : Lib.hasPrefix (s.data.toList.drop k) [47] = decide (s[k].toNat = 47) := by
  unfold Lib.hasPrefix
  rw [drop_cons s k h, Bool.eq_iff_iff, List.isPrefixOf_iff_prefix, decide_eq_true_eq, List.cons_prefix_cons]
  constructor
  · rintro ⟨h1, _⟩
    rw [← h1]; rfl
  · intro h
    exact ⟨(byte_is (n := 47) h (by decide)).symm, List.nil_prefix⟩
def covB (p s : ByteArray) : Bool := Lib.hasPrefix s.data.toList p.data.toList && (decide (s.size = p.size) || (Lib.hasSuffix p.data.toList [47] || Lib.hasPrefix (s.data.toList.drop p.size) [47]))
set_option maxHeartbeats 1000000 in
theorem cov_any (p s : ByteArray) (w : World) (hp : p.size ≤ 9223372036854775807) :
    Calls Tryz.prog 21 #[.string p, .string s] w fun e w' => e = .returned (.bool (covB p s)) ∧ w' = w := by
  have hC := Tryz.strings_CutPrefix s p
  obtain ⟨t, ht⟩ : ∃ t : ByteArray, t = ⟨(Lib.trimPrefix s.data.toList p.data.toList).toArray⟩ := ⟨_, rfl⟩
  have hT : t.data.toList = Lib.trimPrefix s.data.toList p.data.toList := by rw [ht]
  rw [← ht] at hC
  clear ht
  have hS := fun w => Tryz.strings_HasSuffix p ⟨#[47]⟩ w hp
  have hP := Tryz.strings_HasPrefix t ⟨#[47]⟩
  rw [show (⟨#[47]⟩ : ByteArray).data.toList = [47] from rfl] at hS hP
  clear hp
  cases hb : Lib.hasPrefix s.data.toList p.data.toList with
  | false =>
    have HR : Hid (covB p s = false) := hide (by unfold covB; rw [hb]; rfl)
    rw [hb] at hC
    have HC := hide hC
    clear hC hS hP hT hb
    go_enter Tryz.func21, Tryz.ntmps21
    go_wp2_with (go_at_call 39; refine (HC.out _).mono ?_; rintro e w' ⟨rfl, rfl⟩)
    go_ret
    exact ⟨ret_bool HR.out.symm, rfl⟩
  | true =>
    unfold Lib.trimPrefix at hT
    rw [hb, if_pos rfl, size_len] at hT
    have hsz : t.size = s.size - p.size := by rw [← size_len, hT, List.length_drop, size_len]
    have hpl : p.size ≤ s.size := (of_decide_eq_true ((pre_iff s p).symm.trans hb)).1
    have hR : covB p s = (decide (t.size = 0) || (Lib.hasSuffix p.data.toList [47] || Lib.hasPrefix t.data.toList [47])) := by
      unfold covB
      rw [hb, hT, hsz, Bool.true_and]
      congr 1
      exact decide_eq_decide.2 (by omega)
    rw [hb] at hC
    rw [hR]
    have HC := hide hC
    clear hC hT hb hsz hpl hR
    generalize Lib.hasSuffix p.data.toList [47] = x at hS ⊢
    generalize Lib.hasPrefix t.data.toList [47] = y at hP ⊢
    have HS := hide hS
    have HP := hide hP
    clear hS hP
    by_cases h0 : t.size = 0
    · have he : t.toList.isEmpty = true := by rw [Lib.toList_data, isEmpty_size]; exact decide_eq_true h0
      have H0 := hide h0
      clear h0
      go_enter Tryz.func21, Tryz.ntmps21
      go_wp2_with (go_at_call 39; refine (HC.out _).mono ?_; rintro e w' ⟨rfl, rfl⟩)
      go_ret
      exact ⟨ret_bool (by rw [decide_eq_true H0.out]; rfl), rfl⟩
    · have he : t.toList.isEmpty = false := by rw [Lib.toList_data, isEmpty_size]; exact decide_eq_false h0
      have H0 := hide h0
      clear h0
      cases x with
      | true =>
        go_enter Tryz.func21, Tryz.ntmps21
        go_wp2_with (first | (go_at_call 39; refine (HC.out _).mono ?_; rintro e w' ⟨rfl, rfl⟩) | (go_at_call 40; refine (HS.out _).mono ?_; rintro e w' ⟨rfl, rfl⟩))
        go_ret
        exact ⟨ret_bool (by rw [decide_eq_false H0.out]; rfl), rfl⟩
      | false =>
        go_enter Tryz.func21, Tryz.ntmps21
        go_wp2_with (first | (go_at_call 39; refine (HC.out _).mono ?_; rintro e w' ⟨rfl, rfl⟩) | (go_at_call 40; refine (HS.out _).mono ?_; rintro e w' ⟨rfl, rfl⟩) | (go_at_call 41; refine (HP.out _).mono ?_; rintro e w' ⟨rfl, rfl⟩))
        go_ret
        exact ⟨ret_bool (by rw [decide_eq_false H0.out]; rfl), rfl⟩
end Go.Proofs.YtacnnomkacfdbaaGreatDoor
/- How near a match's host is to a host: the program's, the document's. -/
namespace Go.Proofs.YtacnnomkacfdbaaGreatDoor
open Go.ChangeShapes Go.WideShapes Go.ChangeAt Go.RowKit

def wildB (m h : ByteArray) : Bool := Lib.hasPrefix m.data.toList [42, 46] && (decide (m.size ≤ h.size) && decide (h.extract (h.size - m.size + 1) h.size = m.extract 1 m.size))
def hostK (m h : ByteArray) : Nat := if m.size = 0 then 1 else if m = h then 3 else if wildB m h = true then 2 else 0
theorem pre_two (m : ByteArray) : Lib.hasPrefix m.data.toList [42, 46] = decide (2 ≤ m.size ∧ m.extract 0 2 = ⟨#[42, 46]⟩) := pre_iff m ⟨#[42, 46]⟩
set_option maxHeartbeats 1000000 in
theorem thost_any (m h : ByteArray) (w : World) (hm : m.size ≤ 1099511627776) (hh : h.size ≤ 1099511627776) :
    Calls Tryz.prog 22 #[.string m, .string h] w fun e w' => e = .returned (.bool (decide (hostK m h ≠ 0))) ∧ Below w.heap.size w w' := by
  by_cases h0 : m.size = 0
  · have HR : Hid (decide (hostK m h ≠ 0) = true) := hide (decide_eq_true (by unfold hostK; rw [if_pos h0]; decide))
    have he : m.toList.isEmpty = true := by rw [Lib.toList_data, isEmpty_size]; exact decide_eq_true h0
    clear h0
    go_enter Tryz.func22, Tryz.ntmps22
    go_wp2
    go_ret
    exact ⟨ret_bool HR.out.symm, Below.refl _ _⟩
  · have he : m.toList.isEmpty = false := by rw [Lib.toList_data, isEmpty_size]; exact decide_eq_false h0
    have hbe := bytes_eq m h
    by_cases h1 : m = h
    · have HR : Hid (decide (hostK m h ≠ 0) = true) := hide (decide_eq_true (by unfold hostK; rw [if_neg h0, if_pos h1]; decide))
      rw [decide_eq_true h1] at hbe
      clear h0 h1
      go_enter Tryz.func22, Tryz.ntmps22
      go_wp2
      go_ret
      exact ⟨ret_bool HR.out.symm, Below.refl _ _⟩
    · rw [decide_eq_false h1] at hbe
      have hR : decide (hostK m h ≠ 0) = wildB m h := by
        unfold hostK
        rw [if_neg h0, if_neg h1]
        cases wildB m h <;> rfl
      have hP := Tryz.strings_HasPrefix m ⟨#[42, 46]⟩
      rw [show (⟨#[42, 46]⟩ : ByteArray).data.toList = [42, 46] from rfl] at hP
      clear h1
      cases hb : Lib.hasPrefix m.data.toList [42, 46] with
      | false =>
        rw [hb] at hP
        have HP := hide hP
        have HR : Hid (decide (hostK m h ≠ 0) = false) := hide (by rw [hR]; unfold wildB; rw [hb]; rfl)
        clear hP hR hb
        go_enter Tryz.func22, Tryz.ntmps22
        go_wp2_with (go_at_call 41; refine (HP.out _).mono ?_; rintro e w' ⟨rfl, rfl⟩)
        go_ret
        exact ⟨ret_bool HR.out.symm, Below.refl _ _⟩
      | true =>
        have h2 : 2 ≤ m.size := (of_decide_eq_true ((pre_two m).symm.trans hb)).1
        rw [hb] at hP
        have HP := hide hP
        have hez : (m.extract 1 m.size).size = m.size - 1 := by rw [ext_size]; omega
        by_cases h3 : m.size ≤ h.size
        · have hS := fun w => Tryz.strings_HasSuffix h (m.extract 1 m.size) w (by omega)
          rw [suf_iff h (m.extract 1 m.size) (by omega), hez, show h.size - (m.size - 1) = h.size - m.size + 1 by omega] at hS
          have HR : Hid (decide (hostK m h ≠ 0) = decide (h.extract (h.size - m.size + 1) h.size = m.extract 1 m.size)) := hide (by rw [hR]; unfold wildB; rw [hb, decide_eq_true h3]; rfl)
          generalize decide (h.extract (h.size - m.size + 1) h.size = m.extract 1 m.size) = y at hS HR
          have HS := hide hS
          clear hP hR hb hS
          go_enter Tryz.func22, Tryz.ntmps22
          go_wp2_with (first | (go_at_call 41; refine (HP.out _).mono ?_; rintro e w' ⟨rfl, rfl⟩) | (go_at_call 40; refine (HS.out _).mono ?_; rintro e w' ⟨rfl, rfl⟩))
          go_ret
          exact ⟨ret_bool HR.out.symm, Below.refl _ _⟩
        · have HR : Hid (decide (hostK m h ≠ 0) = false) := hide (by rw [hR]; unfold wildB; rw [decide_eq_false h3]; simp)
          clear hP hR hb
          go_enter Tryz.func22, Tryz.ntmps22
          go_wp2_with (go_at_call 41; refine (HP.out _).mono ?_; rintro e w' ⟨rfl, rfl⟩)
          go_ret
          exact ⟨ret_bool HR.out.symm, Below.refl _ _⟩
end Go.Proofs.YtacnnomkacfdbaaGreatDoor
/- How near a match's host is to a host, by the document. -/
namespace Go.Proofs.YtacnnomkacfdbaaGreatDoor
open Go.ChangeShapes Go.WideShapes Go.ChangeAt Go.RowKit

end Go.Proofs.YtacnnomkacfdbaaGreatDoor
/- Whether a prefix covers a path, by the document; how near a match's host is to a host. -/
namespace Go.Proofs.YtacnnomkacfdbaaGreatDoor
open Go.ChangeShapes Go.WideShapes Go.ChangeAt Go.RowKit

end Go.Proofs.YtacnnomkacfdbaaGreatDoor
/- A match's methods, a match's field: the program's. -/
namespace Go.Proofs.YtacnnomkacfdbaaGreatDoor
open Go.ChangeShapes Go.WideShapes Go.ChangeAt Go.RowKit

def methB (M : List ByteArray) (n : ByteArray) : Bool := decide (M.length = 0) || memB M n
theorem tmeth_any (w : World) (v : Value) (A : List ByteArray) (n : ByteArray) (h : SRow w v A) (hA : A.length ≤ 1099511627776) :
    Calls Tryz.prog 23 #[v, .string n] w fun e w' => e = .returned (.bool (methB A n)) ∧ w' = w := by
  have HI := hide (contains_any w v A n h (by unfold maxLen; omega))
  obtain ⟨a, c, rfl, hc⟩ := h
  clear hc
  unfold methB
  by_cases h0 : A.length = 0
  · have H0 := hide h0
    have t0 : ((A.length : Int) == 0) = true := beq_iff_eq.2 (by omega)
    clear h0
    go_enter Tryz.func23, Tryz.ntmps23
    go_wp2
    go_ret
    exact ⟨ret_bool (by rw [decide_eq_true H0.out]; rfl), rfl⟩
  · have H0 := hide h0
    have t0 : ((A.length : Int) == 0) = false := beq_eq_false_iff_ne.2 (by omega)
    clear h0
    generalize memB A n = y at HI ⊢
    go_enter Tryz.func23, Tryz.ntmps23
    go_wp2_with fail
    refine HI.out.mono ?_
    rintro e w' ⟨rfl, rfl⟩
    go_wp2
    go_ret
    exact ⟨ret_bool (by rw [decide_eq_false H0.out]; rfl), rfl⟩
def mtC (ho pf : ByteArray) (ml : Value) (hd va : ByteArray) : Array Value := #[.string ho, .string pf, ml, .string hd, .string va]
def fldB (A : List (ByteArray × ByteArray)) (hd va : ByteArray) : Bool := decide (hd.size = 0) || (decide (0 < (allS A hd).length) && decide (getS (allS A hd) = va))
theorem tflds_any (w : World) (ho pf : ByteArray) (a : Option Addr) (n c : Nat) (hd va : ByteArray) (l : Value) (A : List (ByteArray × ByteArray)) (hA : Flds w l A) (hs : Sm A) (hn : hd.size ≤ 1048576) :
    Calls Tryz.prog 24 #[.agg (mtC ho pf (.slice a n c) hd va), l] w fun e w' => e = .returned (.bool (fldB A hd va)) ∧ Below w.heap.size w w' := by
  have HG := hide (fun W h => get_any W l A hd h hs hn)
  have F0 := hide hA
  obtain ⟨a0, c0, rfl, _, _⟩ := hA
  unfold fldB mtC
  generalize getS (allS A hd) = gv at HG ⊢
  generalize decide (0 < (allS A hd).length) = b at HG ⊢
  clear hs hn
  by_cases h0 : hd.size = 0
  · have he : hd.toList.isEmpty = true := by rw [Lib.toList_data, isEmpty_size]; exact decide_eq_true h0
    have H0 := hide h0
    clear h0
    go_enter Tryz.func24, Tryz.ntmps24
    go_wp2
    go_ret
    exact ⟨ret_bool (by rw [decide_eq_true H0.out]; rfl), (Bl.one w _ _).b⟩
  · have he : hd.toList.isEmpty = false := by rw [Lib.toList_data, isEmpty_size]; exact decide_eq_false h0
    have hbe := bytes_eq gv va
    have H0 := hide h0
    clear h0
    go_enter Tryz.func24, Tryz.ntmps24
    go_wp2_with fail
    have T0 := hide (Bl.one w #[.string ho, .string pf, .slice a n c, .string hd, .string va] 38)
    generalize (w.alloc (.cells #[.string ho, .string pf, .slice a n c, .string hd, .string va] 38)) = x at T0 ⊢
    refine (HG.out _ (F0.out.below T0.out.b)).mono ?_
    rintro e w1 ⟨rfl, bb⟩
    have T1 := hide (T0.out.below bb)
    have r4 : w1.cell? ⟨w.heap.size, 4, none⟩ = some (.string va) := T1.out.cell 0 rfl 4
    clear bb T0 HG
    cases b
    · go_wp2
      go_ret
      exact ⟨ret_bool (by rw [decide_eq_false H0.out]; rfl), T1.out.b⟩
    · go_wp2
      go_ret
      exact ⟨ret_bool (by rw [decide_eq_false H0.out]; simp), T1.out.b⟩
end Go.Proofs.YtacnnomkacfdbaaGreatDoor
/- Whether a match takes a request: the program's, the document's. -/
namespace Go.Proofs.YtacnnomkacfdbaaGreatDoor
open Go.ChangeShapes Go.WideShapes Go.ChangeAt Go.RowKit

def hdC (r : Bool) (me ta : ByteArray) (mi st : Int) (re : ByteArray) (l : Value) : Array Value := #[.bool r, .string me, .string ta, .int .i64 mi, .int .i64 st, .string re, l]
def takB (ho pf : ByteArray) (M : List ByteArray) (hd va me : ByteArray) (A : List (ByteArray × ByteArray)) (host path : ByteArray) : Bool := decide (hostK ho host ≠ 0) && (covB pf path && (methB M me && fldB A hd va))
set_option maxHeartbeats 2000000 in
theorem takes_any (w : World) (ho pf : ByteArray) (ml : Value) (M : List ByteArray) (hd va : ByteArray) (r : Bool) (me ta : ByteArray) (mi st : Int) (re : ByteArray) (l : Value) (A : List (ByteArray × ByteArray)) (host path : ByteArray)
    (hM : SRow w ml M) (hMl : M.length ≤ 1048576) (hA : Flds w l A) (hs : Sm A) (hho : ho.size ≤ 1048576) (hpf : pf.size ≤ 1048576) (hhd : hd.size ≤ 1048576) (hhost : host.size ≤ 1048576) :
    Calls Tryz.prog 10 #[.agg (mtC ho pf ml hd va), .agg (hdC r me ta mi st re l), .string host, .string path] w fun e w' => e = .returned (.bool (takB ho pf M hd va me A host path)) ∧ Below w.heap.size w w' := by
  have H1 := hide (fun W => thost_any ho host W (by omega) (by omega))
  have H2 := hide (fun W => cov_any pf path W (by omega))
  have H3 := hide (fun W h => tmeth_any W ml M me h (by omega))
  have M0 := hide hM
  have F0 := hide hA
  obtain ⟨a1, c1, rfl, _⟩ := hM
  have H4 := hide (fun W h => tflds_any W ho pf a1 M.length c1 hd va l A h hs hhd)
  obtain ⟨a0, c0, rfl, _, _⟩ := hA
  unfold takB hdC
  unfold mtC at H4 ⊢
  generalize decide (hostK ho host ≠ 0) = b1 at H1 ⊢
  generalize covB pf path = b2 at H2 ⊢
  generalize methB M me = b3 at H3 ⊢
  generalize fldB A hd va = b4 at H4 ⊢
  clear hs hho hpf hhd hhost hMl
  go_enter Tryz.func10, Tryz.ntmps10
  go_wp2_with fail
  have T0 := hide (Bl.two w #[.string ho, .string pf, .slice a1 M.length c1, .string hd, .string va] 38 #[.bool r, .string me, .string ta, .int .i64 mi, .int .i64 st, .string re, .slice a0 A.length c0] 28)
  generalize ((w.alloc (.cells #[.string ho, .string pf, .slice a1 M.length c1, .string hd, .string va] 38)).alloc (.cells #[.bool r, .string me, .string ta, .int .i64 mi, .int .i64 st, .string re, .slice a0 A.length c0] 28)) = x at T0 ⊢
  refine (H1.out _).mono ?_
  rintro e w1 ⟨rfl, bb⟩
  have T1 := hide (T0.out.below bb)
  clear bb T0 H1
  have m0 : w1.cell? ⟨w.heap.size, 0, none⟩ = some (.string ho) := T1.out.cell 0 rfl 0
  have m1 : w1.cell? ⟨w.heap.size, 1, none⟩ = some (.string pf) := T1.out.cell 0 rfl 1
  have m2 : w1.cell? ⟨w.heap.size, 2, none⟩ = some (.slice a1 M.length c1) := T1.out.cell 0 rfl 2
  have m3 : w1.cell? ⟨w.heap.size, 3, none⟩ = some (.string hd) := T1.out.cell 0 rfl 3
  have m4 : w1.cell? ⟨w.heap.size, 4, none⟩ = some (.string va) := T1.out.cell 0 rfl 4
  have n1 : w1.cell? ⟨w.heap.size + 1, 1, none⟩ = some (.string me) := T1.out.cell 1 rfl 1
  have n6 : w1.cell? ⟨w.heap.size + 1, 6, none⟩ = some (.slice a0 A.length c0) := T1.out.cell 1 rfl 6
  cases b1
  · go_wp2
    go_ret
    exact ⟨rfl, T1.out.b⟩
  · go_wp2_with fail
    refine (H2.out _).mono ?_
    rintro e w2 ⟨rfl, rfl⟩
    clear H2
    cases b2
    · go_wp2
      go_ret
      exact ⟨rfl, T1.out.b⟩
    · go_wp2_with fail
      refine (H3.out _ (M0.out.below T1.out.b)).mono ?_
      rintro e w2 ⟨rfl, rfl⟩
      clear H3
      cases b3
      · go_wp2
        go_ret
        exact ⟨rfl, T1.out.b⟩
      · go_wp2_with fail
        refine (H4.out _ (F0.out.below T1.out.b)).mono ?_
        rintro e w2 ⟨rfl, bb⟩
        have T2 := hide (T1.out.below bb)
        clear bb H4
        go_wp2
        go_ret
        exact ⟨rfl, T2.out.b⟩
end Go.Proofs.YtacnnomkacfdbaaGreatDoor
/- A path without dots as a plain function on bytes, and what follows of it: no program in it. -/
namespace Go.Proofs.YtacnnomkacfdbaaGreatDoor

def segs : List UInt8 → List (List UInt8)
  | [] => [[]]
  | c :: r => if c = 47 then [] :: segs r else match segs r with
    | h :: t => (c :: h) :: t
    | [] => [[c]]
theorem segs_ne : ∀ l : List UInt8, segs l ≠ []
  | [] => by simp [segs]
  | c :: r => by
    rw [segs]
    split
    · simp
    · split <;> simp
/-- What is begun, and the segments behind it. -/
def segsFrom (P : List UInt8) (l : List UInt8) : List (List UInt8) := match segs l with
  | h :: t => (P ++ h) :: t
  | [] => [P]
theorem segsFrom_nil (P : List UInt8) : segsFrom P [] = [P] := by simp [segsFrom, segs]
theorem segsFrom_cut (P r : List UInt8) : segsFrom P (47 :: r) = P :: segs r := by simp [segsFrom, segs]
theorem segsFrom_next (P r : List UInt8) (c : UInt8) (h : c ≠ 47) : segsFrom P (c :: r) = segsFrom (P ++ [c]) r := by
  unfold segsFrom
  rw [segs, if_neg h]
  cases e : segs r with
  | nil => exact absurd e (segs_ne r)
  | cons a t => simp
theorem segsFrom_empty (l : List UInt8) : segsFrom [] l = segs l := by
  unfold segsFrom
  cases e : segs l with
  | nil => exact absurd e (segs_ne l)
  | cons a t => simp
theorem segs_no : ∀ l : List UInt8, ∀ x ∈ segs l, (47 : UInt8) ∉ x
  | [], x, hx => by simp [segs] at hx; subst hx; simp
  | c :: r, x, hx => by
    rw [segs] at hx
    split at hx
    · rcases List.mem_cons.1 hx with rfl | hx
      · simp
      · exact segs_no r x hx
    · rename_i hc
      have ih := segs_no r
      cases e : segs r with
      | nil => exact absurd e (segs_ne r)
      | cons a t =>
        rw [e] at hx ih
        simp only [List.mem_cons] at hx
        rcases hx with rfl | hx
        · intro hm
          rcases List.mem_cons.1 hm with h1 | h1
          · exact hc h1.symm
          · exact ih a (by simp) h1
        · exact ih x (by simp [hx])

/-! ### As the library parts it -/
theorem segs_none (l : List UInt8) (h : Lib.indexByte l 47 = -1) : segs l = [l] := by
  induction l with
  | nil => rfl
  | cons c r ih =>
    unfold Lib.indexByte at h
    have hg := Lib.indexByte_ge r 47
    split at h
    · omega
    · rename_i hc
      split at h
      · rename_i h2
        rw [segs, if_neg (by simpa using hc), ih (by simpa using h2)]
      · omega
theorem segs_hit (l : List UInt8) (i : Nat) (h : Lib.indexByte l 47 = i) : segs l = l.take i :: segs (l.drop (i + 1)) := by
  induction l generalizing i with
  | nil => simp [Lib.indexByte] at h
  | cons c r ih =>
    unfold Lib.indexByte at h
    have hg := Lib.indexByte_ge r 47
    split at h
    · rename_i hc
      have e : i = 0 := by omega
      subst e
      rw [segs, if_pos (by simpa using hc)]
      rfl
    · rename_i hc
      split at h
      · omega
      · rename_i h2
        obtain ⟨j, hj⟩ : ∃ j : Nat, Lib.indexByte r 47 = j := ⟨(Lib.indexByte r 47).toNat, by simp at h2; omega⟩
        have e : i = j + 1 := by omega
        subst e
        rw [segs, if_neg (by simpa using hc), ih j hj]
        simp
theorem split_segs (k : Nat) : ∀ l : List UInt8, Lib.count l [47] = k → Lib.splitK [47] 0 k l = segs l := by
  induction k with
  | zero =>
    intro l h
    rw [Lib.splitK]
    by_cases hi : Lib.index l [47] = -1
    · rw [Lib.index_one] at hi
      rw [segs_none l hi]
    · have hg := Lib.index_ge l [47]
      obtain ⟨j, hj⟩ : ∃ j : Nat, Lib.index l [47] = j := ⟨(Lib.index l [47]).toNat, by omega⟩
      rw [Lib.count_hit (by simp) hj] at h
      omega
  | succ k ih =>
    intro l h
    by_cases hi : Lib.index l [47] = -1
    · rw [Lib.count_miss hi] at h
      omega
    · have hg := Lib.index_ge l [47]
      obtain ⟨j, hj⟩ : ∃ j : Nat, Lib.index l [47] = j := ⟨(Lib.index l [47]).toNat, by omega⟩
      rw [Lib.count_hit (by simp) hj] at h
      rw [Lib.splitK, if_neg (fun e => hi (beq_iff_eq.1 e)), hj]
      have hj2 := hj
      rw [Lib.index_one] at hj2
      rw [segs_hit l j hj2]
      simp only [Int.toNat_natCast, Nat.add_zero, List.length_singleton]
      rw [ih (l.drop (j + 1)) (by simp only [List.length_singleton] at h; omega)]

/-! ### Without dots -/
def dot : List UInt8 := [46]
def dots : List UInt8 := [46, 46]
def kstep (S : List (List UInt8)) (x : List UInt8) (last : Bool) : List (List UInt8) :=
  if x = dots then (if last then S.dropLast ++ [[]] else S.dropLast) else if x = dot then (if last then S ++ [[]] else S) else S ++ [x]
def keep (S : List (List UInt8)) : List (List UInt8) → List (List UInt8)
  | [] => S
  | x :: r => keep (kstep S x r.isEmpty) r
/-- In one pass. -/
def refK (S : List (List UInt8)) (P : List UInt8) : List UInt8 → List (List UInt8)
  | [] => kstep S P true
  | c :: r => if c = 47 then refK (kstep S P false) [] r else refK S (P ++ [c]) r
theorem refK_eq : ∀ (l : List UInt8) (S : List (List UInt8)) (P : List UInt8), refK S P l = keep S (segsFrom P l)
  | [], S, P => by rw [refK, segsFrom_nil]; rfl
  | c :: r, S, P => by
    rw [refK]
    by_cases h : c = 47
    · subst h
      rw [if_pos rfl, refK_eq r, segsFrom_empty, segsFrom_cut, keep]
      have : (segs r).isEmpty = false := by
        cases e : segs r with
        | nil => exact absurd e (segs_ne r)
        | cons _ _ => rfl
      rw [this]
    · rw [if_neg h, refK_eq r, segsFrom_next P r c h]

theorem kstep_last_ne (S : List (List UInt8)) (x : List UInt8) : kstep S x true ≠ [] := by
  unfold kstep
  split
  · simp
  · split <;> simp
theorem keep_ne : ∀ (A S : List (List UInt8)), A ≠ [] → keep S A ≠ []
  | [x], S, _ => by rw [keep]; exact kstep_last_ne S x
  | x :: y :: r, S, _ => by rw [keep]; exact keep_ne (y :: r) _ (by simp)
theorem kstep_mem {S : List (List UInt8)} {x y : List UInt8} {b : Bool} (h : y ∈ kstep S x b) : y ∈ S ∨ y = [] ∨ (y = x ∧ x ≠ dots ∧ x ≠ dot) := by
  unfold kstep at h
  split at h
  · split at h
    · rcases List.mem_append.1 h with h | h
      · exact .inl (List.dropLast_subset _ h)
      · exact .inr (.inl (by simpa using h))
    · exact .inl (List.dropLast_subset _ h)
  · split at h
    · split at h
      · rcases List.mem_append.1 h with h | h
        · exact .inl h
        · exact .inr (.inl (by simpa using h))
      · exact .inl h
    · rcases List.mem_append.1 h with h | h
      · exact .inl h
      · exact .inr (.inr ⟨by simpa using h, by assumption, by assumption⟩)
theorem keep_mem : ∀ (A S : List (List UInt8)) (y : List UInt8), y ∈ keep S A → y ∈ S ∨ y = [] ∨ (y ∈ A ∧ y ≠ dots ∧ y ≠ dot)
  | [], S, y, h => .inl h
  | x :: r, S, y, h => by
    rw [keep] at h
    rcases keep_mem r _ y h with h1 | h1 | ⟨h1, h2⟩
    · rcases kstep_mem h1 with h3 | h3 | ⟨h3, h4⟩
      · exact .inl h3
      · exact .inr (.inl h3)
      · subst h3; exact .inr (.inr ⟨by simp, h4⟩)
    · exact .inr (.inl h1)
    · exact .inr (.inr ⟨by simp [h1], h2⟩)
theorem keep_plain : ∀ (A S : List (List UInt8)), (∀ y ∈ A, y ≠ dots ∧ y ≠ dot) → keep S A = S ++ A
  | [], S, _ => by simp [keep]
  | x :: r, S, h => by
    have hx := h x (by simp)
    rw [keep, keep_plain r _ (fun y hy => h y (by simp [hy]))]
    unfold kstep
    rw [if_neg hx.1, if_neg hx.2]
    simp

def jn : List (List UInt8) → List UInt8
  | [] => []
  | [x] => x
  | x :: y :: r => x ++ 47 :: jn (y :: r)
theorem jn_snoc : ∀ (l : List (List UInt8)) (x : List UInt8), jn (l ++ [x]) = if l = [] then x else jn l ++ 47 :: x
  | [], x => by simp [jn]
  | [a], x => by simp [jn]
  | a :: b :: r, x => by
    have := jn_snoc (b :: r) x
    rw [if_neg (by simp)] at this
    rw [if_neg (by simp), List.cons_append, List.cons_append, jn, ← List.cons_append, this, jn]
    simp
theorem join_jn : ∀ l : List (List UInt8), Lib.join l [47] = jn l
  | [] => rfl
  | [x] => Lib.join_one x [47]
  | x :: y :: r => by
    have ih := join_jn (y :: r)
    rw [Lib.join_cons] at ih
    rw [Lib.join_cons, jn, ← ih]
    simp [Lib.joinTail]
theorem segs_app (x r : List UInt8) (h : (47 : UInt8) ∉ x) : segs (x ++ 47 :: r) = x :: segs r := by
  induction x with
  | nil => simp [segs]
  | cons c x ih =>
    simp only [List.mem_cons, not_or] at h
    rw [List.cons_append, segs, if_neg (Ne.symm h.1), ih h.2]
theorem segs_plain (x : List UInt8) (h : (47 : UInt8) ∉ x) : segs x = [x] := by
  induction x with
  | nil => rfl
  | cons c x ih =>
    simp only [List.mem_cons, not_or] at h
    rw [segs, if_neg (Ne.symm h.1), ih h.2]
theorem segs_jn : ∀ l : List (List UInt8), l ≠ [] → (∀ x ∈ l, (47 : UInt8) ∉ x) → segs (jn l) = l
  | [x], _, h => by rw [jn, segs_plain x (h x (by simp))]
  | x :: y :: r, _, h => by rw [jn, segs_app x _ (h x (by simp)), segs_jn (y :: r) (by simp) (fun z hz => h z (by simp [hz]))]

/-- What is kept of a path behind its first byte. -/
def kept (m : List UInt8) : List (List UInt8) := keep [] (segs m)
theorem kept_ne (m : List UInt8) : kept m ≠ [] := keep_ne _ _ (segs_ne m)
theorem kept_mem (m : List UInt8) : ∀ x ∈ kept m, (47 : UInt8) ∉ x ∧ x ≠ dots ∧ x ≠ dot := by
  intro x hx
  rcases keep_mem _ _ x hx with h | h | ⟨h, h2⟩
  · cases h
  · subst h; exact ⟨by simp, by simp [dots], by simp [dot]⟩
  · exact ⟨segs_no m x h, h2⟩
theorem segs_kept (m : List UInt8) : segs (jn (kept m)) = kept m := segs_jn _ (kept_ne m) (fun x hx => (kept_mem m x hx).1)
theorem kept_twice (m : List UInt8) : kept (jn (kept m)) = kept m := by
  have e : kept (jn (kept m)) = keep [] (segs (jn (kept m))) := rfl
  rw [e, segs_kept, keep_plain _ _ (fun y hy => (kept_mem m y hy).2), List.nil_append]

def tl : List (List UInt8) → Nat
  | [] => 0
  | x :: r => x.length + 1 + tl r
theorem tl_app : ∀ A B : List (List UInt8), tl (A ++ B) = tl A + tl B
  | [], B => by simp [tl]
  | x :: r, B => by simp only [List.cons_append, tl, tl_app r B]; omega
theorem tl_dropLast (A : List (List UInt8)) : tl A.dropLast ≤ tl A := by
  induction A using snoc_ind with
  | h0 => simp
  | h1 l c _ => rw [List.dropLast_concat, tl_app]; omega
theorem tl_kstep (S : List (List UInt8)) (x : List UInt8) (b : Bool) : tl (kstep S x b) ≤ tl S + (x.length + 1) := by
  have hd := tl_dropLast S
  unfold kstep
  split
  · rename_i h
    split
    · rw [tl_app]; simp [tl]; omega
    · omega
  · split
    · split
      · rw [tl_app]; simp [tl]
      · omega
    · rw [tl_app]; simp [tl]
theorem tl_keep : ∀ (A S : List (List UInt8)), tl (keep S A) ≤ tl S + tl A
  | [], S => by simp [keep, tl]
  | x :: r, S => by
    have h1 := tl_keep r (kstep S x r.isEmpty)
    have h2 := tl_kstep S x r.isEmpty
    rw [keep]
    simp only [tl]
    omega
theorem jn_len : ∀ l : List (List UInt8), l ≠ [] → (jn l).length + 1 = tl l
  | [x], _ => by simp [jn, tl]
  | x :: y :: r, _ => by
    have := jn_len (y :: r) (by simp)
    simp only [jn, tl, List.length_append, List.length_cons] at this ⊢
    omega
theorem tl_segs (m : List UInt8) : tl (segs m) = m.length + 1 := by
  induction m with
  | nil => simp [segs, tl]
  | cons c r ih =>
    rw [segs]
    split
    · simp [tl, ih]; omega
    · cases e : segs r with
      | nil => exact absurd e (segs_ne r)
      | cons a t => rw [e] at ih; simp only [tl, List.length_cons] at ih ⊢; omega
theorem kept_len (m : List UInt8) : (jn (kept m)).length ≤ m.length := by
  have h1 := jn_len (kept m) (kept_ne m)
  have h2 := tl_keep (segs m) []
  rw [tl_segs] at h2
  unfold kept at *
  simp only [tl] at h2
  omega
theorem tl_count (A : List (List UInt8)) : A.length ≤ tl A := by
  induction A with
  | nil => simp
  | cons x r ih => simp only [tl, List.length_cons]; omega
end Go.Proofs.YtacnnomkacfdbaaGreatDoor
/- A path without dots, by the program. -/
namespace Go.Proofs.YtacnnomkacfdbaaGreatDoor
open Go.ChangeShapes Go.WideShapes Go.ChangeAt Go.RowKit

theorem str_eq (a : ByteArray) (l : List UInt8) : (a.toList == l) = decide (a.data.toList = l) := by rw [Lib.toList_data, beq_list]
/-- A row that is cut at its end. -/
theorem Row.cut {W : World} {base : Nat} {e : TypeId} {a : Option Addr} {n c : Nat} {xs : List Value} (h : Row W base e (.slice a n c) xs) (m : Nat) (hm : m ≤ xs.length) : Row W base e (.slice a m c) (xs.take m) := by
  have hl : (xs.take m).length = m := by rw [List.length_take]; omega
  refine ⟨by rw [hl]; omega, ?_⟩
  rw [hl]
  rcases h.2 with ⟨h1, h0⟩ | ⟨g, cap, cur, hv, h1, hg, hc, hmx, hs, ht⟩
  · simp only [Value.slice.injEq] at h1
    obtain ⟨rfl, rfl, rfl⟩ := h1
    have : m = 0 := by omega
    subst this
    exact .inl ⟨rfl, rfl⟩
  · simp only [Value.slice.injEq] at hv
    obtain ⟨rfl, rfl, rfl⟩ := hv
    refine .inr ⟨g, _, cur, rfl, h1, hg, by omega, hmx, hs, ?_⟩
    rw [← ht, List.take_take]
    congr 1
    omega
def sm (A : List (List UInt8)) : List Value := sc (A.map sS)
theorem sm_len (A : List (List UInt8)) : (sm A).length = A.length := by simp [sm, sc]
theorem sm_snoc (A : List (List UInt8)) (x : List UInt8) : sm (A ++ [x]) = sm A ++ [.string (sS x)] := by simp [sm, sc]
theorem sm_dropLast (A : List (List UInt8)) : (sm A).take (A.length - 1) = sm A.dropLast := by
  unfold sm sc
  rw [← List.map_take, ← List.map_take, List.dropLast_eq_take]

set_option maxHeartbeats 2000000 in
theorem kept_any (w : World) (v : Value) (A : List (List UInt8)) (hA : Strs w v (A.map sS)) (hl : A.length ≤ 1099511627776) :
    Calls Tryz.prog 64 #[v] w fun e w' => ∃ u, e = .returned u ∧ Row w' w.heap.size 9 u (sm (keep [] A)) ∧ Below w.heap.size w w' := by
  obtain ⟨a0, c0, hv, hca⟩ := hA
  rw [List.length_map] at hv
  subst hv
  have HA : Hid (∀ j (h : j < A.length), ∃ g, a0 = some ⟨g, 0, none⟩ ∧ g < w.heap.size ∧ w.cell? ⟨g, j, none⟩ = some (.string (sS A[j]))) := hide (fun j hj => by
    obtain ⟨g, h1, h2, h3⟩ := hca j (by rw [List.length_map]; exact hj)
    rw [List.getElem_map] at h3
    exact ⟨g, h1, h2, h3⟩)
  clear hca
  go_enter Tryz.func64, Tryz.ntmps64
  go_wp2
  go_loopw [3, 8] (fun v i wr => ∃ (k : Nat) (S : List (List UInt8)), i = .int .i64 k ∧ k ≤ A.length ∧ S.length ≤ k ∧ Hid (keep [] A = keep S (A.drop k)) ∧ Hid (Row wr w.heap.size 9 v (sm S)) ∧ Hid (Below w.heap.size w wr)) (fun _ i _ => A.length - (intOf i).toNat)
  case atStart => exact ⟨0, [], rfl, Nat.zero_le _, Nat.zero_le _, hide rfl, hide (Row.nil _ _ _), hide (Below.refl _ _)⟩
  case round =>
    obtain ⟨k, S, rfl, hk, hS, H, HR, HB⟩ := hrel
    obtain ⟨a, c, rfl, hc1, hc2⟩ := HR.out.shape
    rw [sm_len] at *
    by_cases hlt : k < A.length
    · obtain ⟨g, rfl, hg, hcell⟩ := HA.out k hlt
      have hce := (HB.out.cell (p := ⟨g, k, none⟩) hg).trans hcell
      have hd : A.drop k = A[k] :: A.drop (k + 1) := List.drop_eq_getElem_cons hlt
      have HS : Hid (keep [] A = keep (kstep S A[k] (decide (A.length = k + 1))) (A.drop (k + 1))) := hide (by
        rw [H.out, hd, keep]
        congr 2
        rw [Bool.eq_iff_iff, List.isEmpty_iff, decide_eq_true_eq, List.drop_eq_nil_iff]
        omega)
      have hdd := str_eq (sS A[k]) [46, 46]
      have hdo := str_eq (sS A[k]) [46]
      rw [sS_list] at hdd hdo
      clear hcell hd
      generalize A[k] = x at hce HS hdd hdo
      have hmx : max ((S.length : Int) - 1) 0 = ((S.length - 1 : Nat) : Int) := by omega
      have hdl : S.dropLast.length = S.length - 1 := by simp
      have HDL := hide hdl
      clear hdl
      have HRC : Hid (Row wr w.heap.size 9 (.slice a (S.length - 1) c) (sm S.dropLast)) := hide (by rw [← sm_dropLast]; exact HR.out.cut (S.length - 1) (by rw [sm_len]; omega))
      have hsc : S.length - 1 ≤ c := by omega
      by_cases h1 : x = dots
      · have t1 : ((sS x).toList == [46, 46]) = true := by rw [hdd]; exact decide_eq_true h1
        by_cases hla : A.length = k + 1
        · have tl : (((k : Int)) == (A.length : Int) - 1) = true := beq_iff_eq.2 (by omega)
          have HK : Hid (keep [] A = keep (S.dropLast ++ [[]]) (A.drop (k + 1))) := hide (by rw [HS.out, decide_eq_true hla]; unfold kstep; rw [if_pos h1]; rfl)
          have HX := hide h1
          clear hdd hdo h1 hla
          go_wp2_with (at_builtin; apply Hid.out)
          unfold Hid
          refine wpList_append_one elS rfl _ _ rfl wr w.heap.size (.slice a (S.length - 1) c) (sm S.dropLast) (.string ⟨#[]⟩) rfl rfl HRC.out rfl (by rw [sm_len, HDL.out]; omega) (by rw [sm_len, HDL.out]; omega) HB.out.size ?_
          intro v' w2 O' B'
          have O2 := hide O'
          have B2 := hide (HB.out.trans B')
          clear O' B'
          go_wp2
          exact ⟨⟨k + 1, S.dropLast ++ [[]], by go_num, by omega, by rw [List.length_append, List.length_singleton, HDL.out]; omega, HK, hide (by rw [sm_snoc]; exact O2.out), B2⟩, by simp [intOf]; omega⟩
        · have tl : (((k : Int)) == (A.length : Int) - 1) = false := beq_eq_false_iff_ne.2 (by omega)
          have HK : Hid (keep [] A = keep S.dropLast (A.drop (k + 1))) := hide (by rw [HS.out, decide_eq_false hla]; unfold kstep; rw [if_pos h1]; rfl)
          have HX := hide h1
          clear hdd hdo h1
          go_wp2
          exact ⟨⟨k + 1, S.dropLast, by go_num, by omega, by rw [HDL.out]; omega, HK, HRC, HB⟩, by simp [intOf]; omega⟩
      · have t1 : ((sS x).toList == [46, 46]) = false := by rw [hdd]; exact decide_eq_false h1
        by_cases h2 : x = dot
        · have t2 : ((sS x).toList == [46]) = true := by rw [hdo]; exact decide_eq_true h2
          by_cases hla : A.length = k + 1
          · have tl : (((k : Int)) == (A.length : Int) - 1) = true := beq_iff_eq.2 (by omega)
            have HK : Hid (keep [] A = keep (S ++ [[]]) (A.drop (k + 1))) := hide (by rw [HS.out, decide_eq_true hla]; unfold kstep; rw [if_neg h1, if_pos h2]; rfl)
            have HX := hide h2
            clear hdd hdo h2 hla
            go_wp2_with (at_builtin; apply Hid.out)
            unfold Hid
            refine wpList_append_one elS rfl _ _ rfl wr w.heap.size (.slice a S.length c) (sm S) (.string ⟨#[]⟩) rfl rfl HR.out rfl (by rw [sm_len]; omega) (by rw [sm_len]; omega) HB.out.size ?_
            intro v' w2 O' B'
            have O2 := hide O'
            have B2 := hide (HB.out.trans B')
            clear O' B'
            go_wp2
            exact ⟨⟨k + 1, S ++ [[]], by go_num, by omega, by rw [List.length_append, List.length_singleton]; omega, HK, hide (by rw [sm_snoc]; exact O2.out), B2⟩, by simp [intOf]; omega⟩
          · have tl : (((k : Int)) == (A.length : Int) - 1) = false := beq_eq_false_iff_ne.2 (by omega)
            have HK : Hid (keep [] A = keep S (A.drop (k + 1))) := hide (by rw [HS.out, decide_eq_false hla]; unfold kstep; rw [if_neg h1, if_pos h2]; rfl)
            have HX := hide h2
            clear hdd hdo h2
            go_wp2
            exact ⟨⟨k + 1, S, by go_num, by omega, by omega, HK, HR, HB⟩, by simp [intOf]; omega⟩
        · have t2 : ((sS x).toList == [46]) = false := by rw [hdo]; exact decide_eq_false h2
          have HK : Hid (keep [] A = keep (S ++ [x]) (A.drop (k + 1))) := hide (by rw [HS.out]; unfold kstep; rw [if_neg h1, if_neg h2])
          clear hdd hdo
          go_wp2_with (at_builtin; apply Hid.out)
          unfold Hid
          refine wpList_append_one elS rfl _ _ rfl wr w.heap.size (.slice a S.length c) (sm S) (.string (sS x)) rfl rfl HR.out rfl (by rw [sm_len]; omega) (by rw [sm_len]; omega) HB.out.size ?_
          intro v' w2 O' B'
          have O2 := hide O'
          have B2 := hide (HB.out.trans B')
          clear O' B'
          go_wp2
          exact ⟨⟨k + 1, S ++ [x], by go_num, by omega, by rw [List.length_append, List.length_singleton]; omega, HK, hide (by rw [sm_snoc]; exact O2.out), B2⟩, by simp [intOf]; omega⟩
    · have HE : Hid (keep [] A = S) := hide (by rw [H.out, List.drop_eq_nil_of_le (by omega)]; rfl)
      go_wp2
      go_ret
      exact ⟨_, rfl, by rw [HE.out]; exact HR.out, HB.out⟩
end Go.Proofs.YtacnnomkacfdbaaGreatDoor
/- Clean, by the program. -/
namespace Go.Proofs.YtacnnomkacfdbaaGreatDoor
open Go.ChangeShapes Go.WideShapes Go.ChangeAt Go.RowKit

/-- The library's variable that its search reads holds a number. -/
def MX (w : World) : Prop := 3 < w.heap.size ∧ ∃ m : Int, w.cell? ⟨3, 0, none⟩ = some (.int .i64 m)
theorem MX.below {w w' : World} (h : MX w) (b : Below w.heap.size w w') : MX w' := by
  obtain ⟨h0, m, hm⟩ := h
  exact ⟨Nat.lt_of_lt_of_le h0 b.size, m, (b.cell (p := ⟨3, 0, none⟩) h0).trans hm⟩

def cleanL (l : List UInt8) : List UInt8 := if l.head? = some 47 then (if 8192 < l.length then [] else 47 :: jn (kept l.tail)) else []
def cleanE (l : List UInt8) : Nat := if l.head? = some 47 then (if 8192 < l.length then 2 else 0) else 1
def cleanS (s : ByteArray) : ByteArray := sS (cleanL s.data.toList)

theorem unmap {X : List ByteArray} {A : List (List UInt8)} (h : X.map (·.data.toList) = A) : X = A.map sS := by
  subst h
  rw [List.map_map]
  conv => lhs; rw [← List.map_id X]
  apply List.map_congr_left
  intro x _
  exact bytes_ext (sS_list _).symm
theorem unmap' (A : List (List UInt8)) : (A.map sS).map (·.data.toList) = A := by
  rw [List.map_map]
  conv => rhs; rw [← List.map_id A]
  apply List.map_congr_left
  intro x _
  exact sS_list x
def slash : ByteArray := ⟨#[47]⟩
theorem slash_list : slash.data.toList = [47] := rfl
theorem lt_alloc (w : World) (o : Obj) : w.heap.size < (w.alloc o).heap.size := by
  have h := hp_new w o
  exact (Array.getElem?_eq_some_iff.1 h).1
theorem split_at (s : ByteArray) (w : World) (hs : s.size < 4294967281) (h : MX w) :
    Calls Tryz.prog 65 #[.string s, .string slash] w fun e w' => ∃ v, e = .returned v ∧ Strs w' v ((segs s.data.toList).map sS) ∧ Below w.heap.size w w' := by
  obtain ⟨h0, m, hm⟩ := h
  refine (Tryz.strings_Split s slash m w hs hm (by decide)).mono ?_
  rintro e w' ⟨rfl, rfl⟩
  have hL : Lib.splitB slash 0 (Lib.countB s slash) s = (segs s.data.toList).map sS := unmap (by rw [Lib.splitB_data, slash_list]; exact split_segs _ _ rfl)
  have hn : (segs s.data.toList).length = Lib.countB s slash + 1 := by
    have h1 := congrArg List.length hL
    rw [List.length_map] at h1
    rw [← h1]
    exact Lib.splitB_all slash (by decide) 0 _ _ rfl
  rw [hL]
  refine ⟨_, rfl, ⟨some ⟨w.heap.size, 0, none⟩, Lib.countB s slash + 1, by rw [List.length_map, hn], fun j hj => ⟨w.heap.size, rfl, lt_alloc w _, ?_⟩⟩, (Below.refl _ w).alloc (Nat.le_refl _) _⟩
  rw [List.length_map] at hj
  rw [cell_at (hp_new _ _)]
  simp [hj]
theorem join_at (w : World) (b : Nat) (v : Value) (A : List (List UInt8)) (h : Row w b 9 v (sm A)) (h0 : A ≠ []) (hl : tl A ≤ 140737488355328) :
    Calls Tryz.prog 63 #[v, .string slash] w fun e w' => e = .returned (.string (sS (jn A))) ∧ Below w.heap.size w w' := by
  obtain ⟨a, c, rfl, hc, _⟩ := h.shape
  rw [sm_len] at *
  have hpos : 0 < A.length := List.length_pos_iff.2 h0
  obtain ⟨g, rfl, _⟩ := h.cell (j := 0) (by rw [sm_len]; exact hpos)
  have hx := Tryz.strings_Join g 0 c (A.map sS) slash w (fun j x hj => ?_) (h.lt rfl).2 ?_ ?_ ?_
  · rw [List.length_map, unmap', slash_list, join_jn] at hx
    exact hx
  · rw [List.getElem?_map] at hj
    cases e : A[j]? with
    | none => rw [e] at hj; cases hj
    | some y =>
      rw [e] at hj
      cases hj
      obtain ⟨hlt, rfl⟩ := List.getElem?_eq_some_iff.1 e
      obtain ⟨g', hg', hcell⟩ := h.cell (j := j) (by rw [sm_len]; exact hlt)
      cases hg'
      rw [Nat.zero_add, hcell]
      simp [sm, sc, hlt]
  · rw [List.length_map]
    have := tl_count A
    omega
  · rw [List.length_map]; exact hc
  · rw [unmap', slash_list, join_jn]
    have := jn_len A h0
    omega
theorem ret_clean {a c : ByteArray} {x : Int} {n : Nat} (h : c = a ∧ (n : Int) = x) : Ending.returned (.tuple #[.string a, .int .i64 x]) = .returned (.tuple #[.string c, .int .i64 (n : Int)]) := by obtain ⟨rfl, rfl⟩ := h; rfl
set_option maxHeartbeats 1000000 in
theorem clean_any (s : ByteArray) (w : World) (hm : MX w) :
    Calls Tryz.prog 33 #[.string s] w fun e w' => e = .returned (.tuple #[.string (cleanS s), .int .i64 (cleanE s.data.toList : Nat)]) ∧ Below w.heap.size w w' := by
  have hP := Tryz.strings_HasPrefix s ⟨#[47]⟩
  rw [show (⟨#[47]⟩ : ByteArray).data.toList = [47] from rfl, prefix_head] at hP
  by_cases h1 : s.data.toList.head? = some 47
  · rw [decide_eq_true h1] at hP
    have HP := hide hP
    have h0 : 0 < s.size := by
      rw [← size_len]
      cases e : s.data.toList with
      | nil => rw [e] at h1; cases h1
      | cons _ _ => simp
    have H1 := hide h1
    have HM := hide hm
    clear hP h1 hm
    by_cases h2 : 8192 < s.size
    · have HR : Hid (cleanS s = ⟨#[]⟩ ∧ ((cleanE s.data.toList : Nat) : Int) = 2) := hide (by
        unfold cleanS cleanL cleanE
        rw [if_pos H1.out, if_pos H1.out, size_len, if_pos h2, if_pos h2]
        exact ⟨rfl, rfl⟩)
      go_enter Tryz.func33, Tryz.ntmps33
      go_wp2_with (go_at_call 41; refine (HP.out _).mono ?_; rintro e w' ⟨rfl, rfl⟩)
      go_ret2
      exact ⟨ret_clean HR.out, Below.refl _ _⟩
    · have HR : Hid (cleanS s = slash ++ sS (jn (kept (s.extract 1 s.size).data.toList)) ∧ ((cleanE s.data.toList : Nat) : Int) = 0) := hide (by
        unfold cleanS cleanL cleanE
        rw [if_pos H1.out, if_pos H1.out, size_len, if_neg h2, if_neg h2]
        refine ⟨bytes_ext ?_, rfl⟩
        rw [sS_list, app_list, sS_list, slash_list, ext_drop, List.drop_one]
        rfl)
      have hes : (s.extract 1 s.size).size = s.size - 1 := by rw [ext_size]; omega
      have HT : Hid (tl (kept (s.extract 1 s.size).data.toList) ≤ 8193) := hide (by
        have h3 := tl_keep (segs (s.extract 1 s.size).data.toList) []
        rw [tl_segs, size_len] at h3
        unfold kept
        simp only [tl] at h3
        omega)
      have hjl : (sS (jn (kept (s.extract 1 s.size).data.toList))).size ≤ 8193 := by
        have := jn_len _ (kept_ne (s.extract 1 s.size).data.toList)
        have := HT.out
        rw [sS_size]
        omega
      go_enter Tryz.func33, Tryz.ntmps33
      go_wp2_with (go_at_call 41; refine (HP.out _).mono ?_; rintro e w' ⟨rfl, rfl⟩)
      go_wp2_with fail
      refine (split_at _ _ (by omega) HM.out).mono ?_
      rintro e w1 ⟨v1, rfl, s1, b1⟩
      have B1 := hide b1
      have S1 := hide s1
      clear b1 s1
      go_wp2_with fail
      refine (kept_any _ _ _ S1.out (by have := tl_count (segs (s.extract 1 s.size).data.toList); rw [tl_segs, size_len] at this; omega)).mono ?_
      rintro e w2 ⟨v2, rfl, r2, b2⟩
      have B2 := hide (B1.out.trans (b2.mono B1.out.size))
      have R2 := hide r2
      clear b2 r2 B1 S1
      go_wp2_with fail
      refine (join_at _ _ _ _ R2.out (kept_ne _) (by have := HT.out; unfold kept at this; omega)).mono ?_
      rintro e w3 ⟨rfl, b3⟩
      have B3 := hide (B2.out.trans (b3.mono B2.out.size))
      clear b3 B2 R2
      have hjl' : (sS (jn (keep [] (segs (s.extract 1 s.size).data.toList)))).size ≤ 8193 := hjl
      have HR2 : Hid (cleanS s = slash ++ sS (jn (keep [] (segs (s.extract 1 s.size).data.toList))) ∧ ((cleanE s.data.toList : Nat) : Int) = 0) := HR
      clear HR HT hjl hes
      generalize sS (jn (keep [] (segs (s.extract 1 s.size).data.toList))) = J at hjl' HR2 ⊢
      go_wp2
      go_ret2
      exact ⟨ret_clean HR2.out, B3.out⟩
  · rw [decide_eq_false h1] at hP
    have HP := hide hP
    have HR : Hid (cleanS s = ⟨#[]⟩ ∧ ((cleanE s.data.toList : Nat) : Int) = 1) := hide (by
      unfold cleanS cleanL cleanE
      rw [if_neg h1, if_neg h1]
      exact ⟨rfl, rfl⟩)
    clear hP h1
    go_enter Tryz.func33, Tryz.ntmps33
    go_wp2_with (go_at_call 41; refine (HP.out _).mono ?_; rintro e w' ⟨rfl, rfl⟩)
    go_ret2
    exact ⟨ret_clean HR.out, Below.refl _ _⟩
end Go.Proofs.YtacnnomkacfdbaaGreatDoor
/- Which form a target has, and what it tells in it: by the program. -/
namespace Go.Proofs.YtacnnomkacfdbaaGreatDoor
open Go.ChangeShapes Go.WideShapes Go.ChangeAt Go.RowKit

def tgV (f : Int) (h : ByteArray) (p : Int) (pa q : ByteArray) (a : Bool) : Value := .agg #[.int .i64 f, .string h, .int .i64 p, .string pa, .string q, .bool a]
def cutP (s : ByteArray) : ByteArray := sS (Lib.cut s.data.toList [63]).1
def cutQ (s : ByteArray) : ByteArray := sS (Lib.cut s.data.toList [63]).2.1
def cutA (s : ByteArray) : Bool := (Lib.cut s.data.toList [63]).2.2
def locB (s : ByteArray) : Bool := holdsB pathMarks (cutP s).data.toList && holdsB queryMarks (cutQ s).data.toList
def qm : ByteArray := ⟨#[63]⟩
theorem cut_size (s : ByteArray) : (cutP s).size ≤ s.size ∧ (cutQ s).size ≤ s.size := by
  have hg := Lib.index_ge s.data.toList [63]
  by_cases hi : Lib.indexB s qm = -1
  · have h := Lib.cutB_miss s qm hi
    have h1 : cutP s = s := h.1
    have h2 : cutQ s = ByteArray.empty := h.2.1
    rw [h1, h2]
    exact ⟨Nat.le_refl _, Nat.zero_le _⟩
  · have hi2 : Lib.index s.data.toList [63] ≠ -1 := hi
    obtain ⟨i, hi'⟩ : ∃ i : Nat, Lib.indexB s qm = i := ⟨(Lib.index s.data.toList [63]).toNat, by
      show Lib.index s.data.toList [63] = _
      omega⟩
    have h := Lib.cutB_hit s qm i hi'
    have h1 : cutP s = s.extract 0 i := h.1
    have h2 : cutQ s = s.extract (i + qm.size) s.size := h.2.1
    rw [h1, h2, ext_size, ext_size]
    omega
theorem cut_at (s : ByteArray) (w : World) (hs : s.size < 4294967281) (h : MX w) :
    Calls Tryz.prog 54 #[.string s, .string qm] w fun e w' => e = .returned (.tuple #[.string (cutP s), .string (cutQ s), .bool (cutA s)]) ∧ Below w.heap.size w w' := by
  obtain ⟨h0, m, hm⟩ := h
  refine (Tryz.strings_Cut s qm m w hs hm).mono ?_
  rintro e w' ⟨rfl, n, rfl⟩
  exact ⟨rfl, below_drewN w n⟩
theorem clone_at (s : ByteArray) (w : World) (hs : s.size ≤ 281474976710656) :
    Calls Tryz.prog 55 #[.string s] w fun e w' => e = .returned (.string s) ∧ Below w.heap.size w w' := by
  have HC := hide (fun w => Tryz.stringslite_Clone s w hs)
  go_enter Tryz.func55, Tryz.ntmps55
  go_wp2_with fail
  refine (HC.out _).mono ?_
  rintro e w1 ⟨rfl, b1⟩
  go_wp2
  go_ret
  exact ⟨rfl, b1⟩
/-- Two blocks of the function's own: what it hands back, and what it works on. -/
structure Two (w x : World) (c0 c1 : Array Value) : Prop where
  h0 : x.heap[w.heap.size]? = some (.cells c0 53)
  h1 : x.heap[w.heap.size + 1]? = some (.cells c1 53)
  b : Below w.heap.size w x
theorem Two.start (w : World) (c0 c1 : Array Value) : Two w ((w.alloc (.cells c0 53)).alloc (.cells c1 53)) c0 c1 := by
  have hsz : (w.alloc (.cells c0 53)).heap.size = w.heap.size + 1 := by simp
  refine ⟨?_, ?_, ((Below.refl _ w).alloc (Nat.le_refl _) _).alloc (by omega) _⟩
  · rw [Below.heap_alloc _ _ _ (by omega)]
    exact hp_new w _
  · rw [← hsz]
    exact hp_new _ _
theorem lt_of_heap {x : World} {b : Nat} {o : Obj} (h : x.heap[b]? = some o) : b < x.heap.size := (Array.getElem?_eq_some_iff.1 h).1
theorem Two.below {w x y : World} {c0 c1 : Array Value} (h : Two w x c0 c1) (hb : Below x.heap.size x y) : Two w y c0 c1 :=
  ⟨(hb.block _ (lt_of_heap h.h0)).trans h.h0, (hb.block _ (lt_of_heap h.h1)).trans h.h1, h.b.trans (hb.mono h.b.size)⟩
theorem Two.set1 {w x : World} {c0 c1 : Array Value} (h : Two w x c0 c1) (i : Nat) (v : Value) : Two w (x.setCell ⟨w.heap.size + 1, i, none⟩ v) c0 (c1.setIfInBounds i v) :=
  ⟨(Below.heap_setCell _ _ _ _ (by simp)).trans h.h0, hp_set h.h1 i v, h.b.setCell (by simp) _⟩
theorem Two.set0 {w x : World} {c0 c1 : Array Value} (h : Two w x c0 c1) (i : Nat) (v : Value) : Two w (x.setCell ⟨w.heap.size, i, none⟩ v) (c0.setIfInBounds i v) c1 :=
  ⟨hp_set h.h0 i v, (Below.heap_setCell _ _ _ _ (by simp)).trans h.h1, h.b.setCell (Nat.le_refl _) _⟩
theorem Two.cell0 {w x : World} {c0 c1 : Array Value} (h : Two w x c0 c1) (i : Nat) : x.cell? ⟨w.heap.size, i, none⟩ = c0[i]? := cell_at h.h0 i
theorem Two.cell1 {w x : World} {c0 c1 : Array Value} (h : Two w x c0 c1) (i : Nat) : x.cell? ⟨w.heap.size + 1, i, none⟩ = c1[i]? := cell_at h.h1 i
theorem Two.fr0 {w x : World} {c0 c1 : Array Value} (h : Two w x c0 c1) (i : Nat) : x.frozen? ⟨w.heap.size, i, none⟩ = false := by rw [frozen_at h.h0]; simp
theorem Two.fr1 {w x : World} {c0 c1 : Array Value} (h : Two w x c0 c1) (i : Nat) : x.frozen? ⟨w.heap.size + 1, i, none⟩ = false := by rw [frozen_at h.h1]; simp
theorem ret_tg {a b : Value} {x : Int} {n : Int} (h : b = a ∧ n = x) : Ending.returned (.tuple #[a, .int .i64 x]) = .returned (.tuple #[b, .int .i64 n]) := by rw [h.1, h.2]
set_option maxHeartbeats 1000000 in
theorem read_origin (s : ByteArray) (w : World) (hs : s.size ≤ 8200) (hm : MX w) :
    Calls Tryz.prog 29 #[.int .i64 1, .string s] w fun e w' => e = .returned (.tuple #[tgV 1 ⟨#[]⟩ (-1) (cutP s) (cutQ s) (cutA s), .int .i64 (if locB s then 0 else 60)]) ∧ Below w.heap.size w w' := by
  have HM := hide hm
  clear hm
  have hz := cut_size s
  have hC := fun w => cut_at s w (by omega)
  have hH1 := fun w => holds_any (cutP s) ⟨#[45, 46, 95, 126, 33, 36, 38, 39, 40, 41, 42, 43, 44, 59, 61, 58, 64, 47]⟩ w
  have hH2 := fun w => holds_any (cutQ s) ⟨#[45, 46, 95, 126, 33, 36, 38, 39, 40, 41, 42, 43, 44, 59, 61, 58, 64, 47, 63]⟩ w
  rw [show (⟨#[45, 46, 95, 126, 33, 36, 38, 39, 40, 41, 42, 43, 44, 59, 61, 58, 64, 47]⟩ : ByteArray).data.toList = pathMarks from rfl] at hH1
  rw [show (⟨#[45, 46, 95, 126, 33, 36, 38, 39, 40, 41, 42, 43, 44, 59, 61, 58, 64, 47, 63]⟩ : ByteArray).data.toList = queryMarks from rfl] at hH2
  unfold locB
  generalize holdsB pathMarks (cutP s).data.toList = b1 at hH1 ⊢
  generalize holdsB queryMarks (cutQ s).data.toList = b2 at hH2 ⊢
  generalize cutP s = pa at hz hC hH1 ⊢
  generalize cutQ s = qu at hz hC hH2 ⊢
  generalize cutA s = ask at hC ⊢
  have hp : pa.size ≤ maxLen := by unfold maxLen; omega
  have hq : qu.size ≤ maxLen := by unfold maxLen; omega
  have HC := hide hC
  have HH1 := hide hH1
  have HH2 := hide hH2
  clear hC hH1 hH2
  go_enter Tryz.func29, Tryz.ntmps29
  go_wp2_with fail
  have T0 := hide (Two.start w #[.int .i64 0, .string ⟨#[]⟩, .int .i64 0, .string ⟨#[]⟩, .string ⟨#[]⟩, .bool false] #[.int .i64 1, .string ⟨#[]⟩, .int .i64 (-1), .string ⟨#[]⟩, .string ⟨#[]⟩, .bool false])
  generalize ((w.alloc (.cells #[.int .i64 0, .string ⟨#[]⟩, .int .i64 0, .string ⟨#[]⟩, .string ⟨#[]⟩, .bool false] 53)).alloc (.cells #[.int .i64 1, .string ⟨#[]⟩, .int .i64 (-1), .string ⟨#[]⟩, .string ⟨#[]⟩, .bool false] 53)) = x at T0 ⊢
  refine (clone_at _ _ (by omega)).mono ?_
  rintro e w1 ⟨rfl, b1'⟩
  have T1 := hide (T0.out.below b1')
  clear b1' T0
  go_wp2_with fail
  refine (HC.out _ (HM.out.below T1.out.b)).mono ?_
  rintro e w2 ⟨rfl, b2'⟩
  have T2 := hide (T1.out.below b2')
  clear b2' T1
  have c3 : w2.cell? ⟨w.heap.size + 1, 3, none⟩ = some (.string ⟨#[]⟩) := T2.out.cell1 3
  have c4 : w2.cell? ⟨w.heap.size + 1, 4, none⟩ = some (.string ⟨#[]⟩) := T2.out.cell1 4
  have c5 : w2.cell? ⟨w.heap.size + 1, 5, none⟩ = some (.bool false) := T2.out.cell1 5
  have f3 := T2.out.fr1 3
  have f4 := T2.out.fr1 4
  have f5 := T2.out.fr1 5
  go_wp2_with fail
  have T3 := hide (((T2.out.set1 3 (.string pa)).set1 4 (.string qu)).set1 5 (.bool ask))
  clear T2 c3 c4 c5 f3 f4 f5
  generalize (((w2.setCell ⟨w.heap.size + 1, 3, none⟩ (.string pa)).setCell ⟨w.heap.size + 1, 4, none⟩ (.string qu)).setCell ⟨w.heap.size + 1, 5, none⟩ (.bool ask)) = w3 at T3 ⊢
  have d0 : w3.cell? ⟨w.heap.size + 1, 0, none⟩ = some (.int .i64 1) := T3.out.cell1 0
  have d1 : w3.cell? ⟨w.heap.size + 1, 1, none⟩ = some (.string ⟨#[]⟩) := T3.out.cell1 1
  have d2 : w3.cell? ⟨w.heap.size + 1, 2, none⟩ = some (.int .i64 (-1)) := T3.out.cell1 2
  have d3 : w3.cell? ⟨w.heap.size + 1, 3, none⟩ = some (.string pa) := T3.out.cell1 3
  have d4 : w3.cell? ⟨w.heap.size + 1, 4, none⟩ = some (.string qu) := T3.out.cell1 4
  have d5 : w3.cell? ⟨w.heap.size + 1, 5, none⟩ = some (.bool ask) := T3.out.cell1 5
  have r0 : w3.cell? ⟨w.heap.size, 0, none⟩ = some (.int .i64 0) := T3.out.cell0 0
  have r1 : w3.cell? ⟨w.heap.size, 1, none⟩ = some (.string ⟨#[]⟩) := T3.out.cell0 1
  have r2 : w3.cell? ⟨w.heap.size, 2, none⟩ = some (.int .i64 0) := T3.out.cell0 2
  have r3 : w3.cell? ⟨w.heap.size, 3, none⟩ = some (.string ⟨#[]⟩) := T3.out.cell0 3
  have r4 : w3.cell? ⟨w.heap.size, 4, none⟩ = some (.string ⟨#[]⟩) := T3.out.cell0 4
  have r5 : w3.cell? ⟨w.heap.size, 5, none⟩ = some (.bool false) := T3.out.cell0 5
  have g0 := T3.out.fr0 0
  have g1 := T3.out.fr0 1
  have g2 := T3.out.fr0 2
  have g3 := T3.out.fr0 3
  have g4 := T3.out.fr0 4
  have g5 := T3.out.fr0 5
  refine (HH1.out _ hp).mono ?_
  rintro e w' ⟨rfl, rfl⟩
  cases b1 with
  | false =>
    go_wp2
    have T4 := hide ((((((T3.out.set0 0 (.int .i64 1)).set0 1 (.string ⟨#[]⟩)).set0 2 (.int .i64 (-1))).set0 3 (.string pa)).set0 4 (.string qu)).set0 5 (.bool ask))
    generalize ((((((w3.setCell ⟨w.heap.size, 0, none⟩ (.int .i64 1)).setCell ⟨w.heap.size, 1, none⟩ (.string ⟨#[]⟩)).setCell ⟨w.heap.size, 2, none⟩ (.int .i64 (-1))).setCell ⟨w.heap.size, 3, none⟩ (.string pa)).setCell ⟨w.heap.size, 4, none⟩ (.string qu)).setCell ⟨w.heap.size, 5, none⟩ (.bool ask)) = w4 at T4 ⊢
    have k0 : w4.cell? ⟨w.heap.size, 0, none⟩ = some (.int .i64 1) := T4.out.cell0 0
    have k1 : w4.cell? ⟨w.heap.size, 1, none⟩ = some (.string ⟨#[]⟩) := T4.out.cell0 1
    have k2 : w4.cell? ⟨w.heap.size, 2, none⟩ = some (.int .i64 (-1)) := T4.out.cell0 2
    have k3 : w4.cell? ⟨w.heap.size, 3, none⟩ = some (.string pa) := T4.out.cell0 3
    have k4 : w4.cell? ⟨w.heap.size, 4, none⟩ = some (.string qu) := T4.out.cell0 4
    have k5 : w4.cell? ⟨w.heap.size, 5, none⟩ = some (.bool ask) := T4.out.cell0 5
    clear d0 d1 d2 d3 d4 d5 r0 r1 r2 r3 r4 r5 g0 g1 g2 g3 g4 g5
    refine bodyPost_ret (v := .tuple #[tgV 1 ⟨#[]⟩ (-1) pa qu ask, .int .i64 60]) (by simp [results, Tryz.results29, go_sem, k0, k1, k2, k3, k4, k5, tgV]) rfl ⟨rfl, T4.out.b⟩
  | true =>
    go_wp2_with fail
    refine (HH2.out _ hq).mono ?_
    rintro e w' ⟨rfl, rfl⟩
    cases b2 with
    | false =>
      go_wp2
      have T4 := hide ((((((T3.out.set0 0 (.int .i64 1)).set0 1 (.string ⟨#[]⟩)).set0 2 (.int .i64 (-1))).set0 3 (.string pa)).set0 4 (.string qu)).set0 5 (.bool ask))
      generalize ((((((w3.setCell ⟨w.heap.size, 0, none⟩ (.int .i64 1)).setCell ⟨w.heap.size, 1, none⟩ (.string ⟨#[]⟩)).setCell ⟨w.heap.size, 2, none⟩ (.int .i64 (-1))).setCell ⟨w.heap.size, 3, none⟩ (.string pa)).setCell ⟨w.heap.size, 4, none⟩ (.string qu)).setCell ⟨w.heap.size, 5, none⟩ (.bool ask)) = w4 at T4 ⊢
      have k0 : w4.cell? ⟨w.heap.size, 0, none⟩ = some (.int .i64 1) := T4.out.cell0 0
      have k1 : w4.cell? ⟨w.heap.size, 1, none⟩ = some (.string ⟨#[]⟩) := T4.out.cell0 1
      have k2 : w4.cell? ⟨w.heap.size, 2, none⟩ = some (.int .i64 (-1)) := T4.out.cell0 2
      have k3 : w4.cell? ⟨w.heap.size, 3, none⟩ = some (.string pa) := T4.out.cell0 3
      have k4 : w4.cell? ⟨w.heap.size, 4, none⟩ = some (.string qu) := T4.out.cell0 4
      have k5 : w4.cell? ⟨w.heap.size, 5, none⟩ = some (.bool ask) := T4.out.cell0 5
      clear d0 d1 d2 d3 d4 d5 r0 r1 r2 r3 r4 r5 g0 g1 g2 g3 g4 g5
      refine bodyPost_ret (v := .tuple #[tgV 1 ⟨#[]⟩ (-1) pa qu ask, .int .i64 60]) (by simp [results, Tryz.results29, go_sem, k0, k1, k2, k3, k4, k5, tgV]) rfl ⟨rfl, T4.out.b⟩
    | true =>
      go_wp2
      have T4 := hide ((((((T3.out.set0 0 (.int .i64 1)).set0 1 (.string ⟨#[]⟩)).set0 2 (.int .i64 (-1))).set0 3 (.string pa)).set0 4 (.string qu)).set0 5 (.bool ask))
      generalize ((((((w3.setCell ⟨w.heap.size, 0, none⟩ (.int .i64 1)).setCell ⟨w.heap.size, 1, none⟩ (.string ⟨#[]⟩)).setCell ⟨w.heap.size, 2, none⟩ (.int .i64 (-1))).setCell ⟨w.heap.size, 3, none⟩ (.string pa)).setCell ⟨w.heap.size, 4, none⟩ (.string qu)).setCell ⟨w.heap.size, 5, none⟩ (.bool ask)) = w4 at T4 ⊢
      have k0 : w4.cell? ⟨w.heap.size, 0, none⟩ = some (.int .i64 1) := T4.out.cell0 0
      have k1 : w4.cell? ⟨w.heap.size, 1, none⟩ = some (.string ⟨#[]⟩) := T4.out.cell0 1
      have k2 : w4.cell? ⟨w.heap.size, 2, none⟩ = some (.int .i64 (-1)) := T4.out.cell0 2
      have k3 : w4.cell? ⟨w.heap.size, 3, none⟩ = some (.string pa) := T4.out.cell0 3
      have k4 : w4.cell? ⟨w.heap.size, 4, none⟩ = some (.string qu) := T4.out.cell0 4
      have k5 : w4.cell? ⟨w.heap.size, 5, none⟩ = some (.bool ask) := T4.out.cell0 5
      clear d0 d1 d2 d3 d4 d5 r0 r1 r2 r3 r4 r5 g0 g1 g2 g3 g4 g5
      refine bodyPost_ret (v := .tuple #[tgV 1 ⟨#[]⟩ (-1) pa qu ask, .int .i64 0]) (by simp [results, Tryz.results29, go_sem, k0, k1, k2, k3, k4, k5, tgV]) rfl ⟨rfl, T4.out.b⟩

end Go.Proofs.YtacnnomkacfdbaaGreatDoor
/- What a target tells in its other forms: by the program. -/
namespace Go.Proofs.YtacnnomkacfdbaaGreatDoor
open Go.ChangeShapes Go.WideShapes Go.ChangeAt Go.RowKit

set_option maxHeartbeats 1000000 in
theorem read_ast (s : ByteArray) (w : World) :
    Calls Tryz.prog 29 #[.int .i64 4, .string s] w fun e w' => e = .returned (.tuple #[tgV 4 ⟨#[]⟩ (-1) ⟨#[]⟩ ⟨#[]⟩ false, .int .i64 0]) ∧ Below w.heap.size w w' := by
  go_enter Tryz.func29, Tryz.ntmps29
  go_wp2
  have T4 := hide (Two.start w #[.int .i64 4, .string ⟨#[]⟩, .int .i64 (-1), .string ⟨#[]⟩, .string ⟨#[]⟩, .bool false] #[.int .i64 4, .string ⟨#[]⟩, .int .i64 (-1), .string ⟨#[]⟩, .string ⟨#[]⟩, .bool false])
  generalize ((w.alloc (.cells #[.int .i64 4, .string ⟨#[]⟩, .int .i64 (-1), .string ⟨#[]⟩, .string ⟨#[]⟩, .bool false] 53)).alloc (.cells #[.int .i64 4, .string ⟨#[]⟩, .int .i64 (-1), .string ⟨#[]⟩, .string ⟨#[]⟩, .bool false] 53)) = w4 at T4 ⊢
  have k0 : w4.cell? ⟨w.heap.size, 0, none⟩ = some (.int .i64 4) := T4.out.cell0 0
  have k1 : w4.cell? ⟨w.heap.size, 1, none⟩ = some (.string ⟨#[]⟩) := T4.out.cell0 1
  have k2 : w4.cell? ⟨w.heap.size, 2, none⟩ = some (.int .i64 (-1)) := T4.out.cell0 2
  have k3 : w4.cell? ⟨w.heap.size, 3, none⟩ = some (.string ⟨#[]⟩) := T4.out.cell0 3
  have k4 : w4.cell? ⟨w.heap.size, 4, none⟩ = some (.string ⟨#[]⟩) := T4.out.cell0 4
  have k5 : w4.cell? ⟨w.heap.size, 5, none⟩ = some (.bool false) := T4.out.cell0 5
  exact bodyPost_ret (v := .tuple #[tgV 4 ⟨#[]⟩ (-1) ⟨#[]⟩ ⟨#[]⟩ false, .int .i64 0]) (by simp [results, Tryz.results29, go_sem, k0, k1, k2, k3, k4, k5, tgV]) rfl ⟨rfl, T4.out.b⟩

set_option maxHeartbeats 1000000 in
theorem read_none (s : ByteArray) (w : World) :
    Calls Tryz.prog 29 #[.int .i64 0, .string s] w fun e w' => e = .returned (.tuple #[tgV 0 ⟨#[]⟩ (-1) ⟨#[]⟩ ⟨#[]⟩ false, .int .i64 60]) ∧ Below w.heap.size w w' := by
  go_enter Tryz.func29, Tryz.ntmps29
  go_wp2
  have T4 := hide (Two.start w #[.int .i64 0, .string ⟨#[]⟩, .int .i64 (-1), .string ⟨#[]⟩, .string ⟨#[]⟩, .bool false] #[.int .i64 0, .string ⟨#[]⟩, .int .i64 (-1), .string ⟨#[]⟩, .string ⟨#[]⟩, .bool false])
  generalize ((w.alloc (.cells #[.int .i64 0, .string ⟨#[]⟩, .int .i64 (-1), .string ⟨#[]⟩, .string ⟨#[]⟩, .bool false] 53)).alloc (.cells #[.int .i64 0, .string ⟨#[]⟩, .int .i64 (-1), .string ⟨#[]⟩, .string ⟨#[]⟩, .bool false] 53)) = w4 at T4 ⊢
  have k0 : w4.cell? ⟨w.heap.size, 0, none⟩ = some (.int .i64 0) := T4.out.cell0 0
  have k1 : w4.cell? ⟨w.heap.size, 1, none⟩ = some (.string ⟨#[]⟩) := T4.out.cell0 1
  have k2 : w4.cell? ⟨w.heap.size, 2, none⟩ = some (.int .i64 (-1)) := T4.out.cell0 2
  have k3 : w4.cell? ⟨w.heap.size, 3, none⟩ = some (.string ⟨#[]⟩) := T4.out.cell0 3
  have k4 : w4.cell? ⟨w.heap.size, 4, none⟩ = some (.string ⟨#[]⟩) := T4.out.cell0 4
  have k5 : w4.cell? ⟨w.heap.size, 5, none⟩ = some (.bool false) := T4.out.cell0 5
  exact bodyPost_ret (v := .tuple #[tgV 0 ⟨#[]⟩ (-1) ⟨#[]⟩ ⟨#[]⟩ false, .int .i64 60]) (by simp [results, Tryz.results29, go_sem, k0, k1, k2, k3, k4, k5, tgV]) rfl ⟨rfl, T4.out.b⟩

def autE (l : List UInt8) : Int := if hostE l = 0 then (if hostP l = -1 then 62 else 0) else hostE l
set_option maxHeartbeats 1000000 in
theorem read_auth (s : ByteArray) (w : World) (hs : s.size ≤ 8200) :
    Calls Tryz.prog 29 #[.int .i64 3, .string s] w fun e w' => e = .returned (.tuple #[tgV 3 (hostS s) (hostP s.data.toList) ⟨#[]⟩ ⟨#[]⟩ false, .int .i64 (autE s.data.toList)]) ∧ Below w.heap.size w w' := by
  have hH := fun w => host_any s w (by omega)
  unfold autE
  generalize hostS s = hn at hH ⊢
  generalize hostP s.data.toList = hp at hH ⊢
  generalize hostE s.data.toList = he at hH ⊢
  have HH := hide hH
  clear hH
  go_enter Tryz.func29, Tryz.ntmps29
  go_wp2_with fail
  have T0 := hide (Two.start w #[.int .i64 0, .string ⟨#[]⟩, .int .i64 0, .string ⟨#[]⟩, .string ⟨#[]⟩, .bool false] #[.int .i64 3, .string ⟨#[]⟩, .int .i64 (-1), .string ⟨#[]⟩, .string ⟨#[]⟩, .bool false])
  generalize ((w.alloc (.cells #[.int .i64 0, .string ⟨#[]⟩, .int .i64 0, .string ⟨#[]⟩, .string ⟨#[]⟩, .bool false] 53)).alloc (.cells #[.int .i64 3, .string ⟨#[]⟩, .int .i64 (-1), .string ⟨#[]⟩, .string ⟨#[]⟩, .bool false] 53)) = x at T0 ⊢
  refine (HH.out _).mono ?_
  rintro e w2 ⟨rfl, b2'⟩
  have T2 := hide (T0.out.below b2')
  clear b2' T0
  have f1 := T2.out.fr1 1
  have f2 := T2.out.fr1 2
  have T3 := hide ((T2.out.set1 1 (.string hn)).set1 2 (.int .i64 hp))
  have d0 : w2.cell? ⟨w.heap.size + 1, 0, none⟩ = some (.int .i64 3) := T2.out.cell1 0
  have d1 : w2.cell? ⟨w.heap.size + 1, 1, none⟩ = some (.string ⟨#[]⟩) := T2.out.cell1 1
  have d2 : w2.cell? ⟨w.heap.size + 1, 2, none⟩ = some (.int .i64 (-1)) := T2.out.cell1 2
  have d3 : w2.cell? ⟨w.heap.size + 1, 3, none⟩ = some (.string ⟨#[]⟩) := T2.out.cell1 3
  have d4 : w2.cell? ⟨w.heap.size + 1, 4, none⟩ = some (.string ⟨#[]⟩) := T2.out.cell1 4
  have d5 : w2.cell? ⟨w.heap.size + 1, 5, none⟩ = some (.bool false) := T2.out.cell1 5
  have r0 : w2.cell? ⟨w.heap.size, 0, none⟩ = some (.int .i64 0) := T2.out.cell0 0
  have r1 : w2.cell? ⟨w.heap.size, 1, none⟩ = some (.string ⟨#[]⟩) := T2.out.cell0 1
  have r2 : w2.cell? ⟨w.heap.size, 2, none⟩ = some (.int .i64 0) := T2.out.cell0 2
  have r3 : w2.cell? ⟨w.heap.size, 3, none⟩ = some (.string ⟨#[]⟩) := T2.out.cell0 3
  have r4 : w2.cell? ⟨w.heap.size, 4, none⟩ = some (.string ⟨#[]⟩) := T2.out.cell0 4
  have r5 : w2.cell? ⟨w.heap.size, 5, none⟩ = some (.bool false) := T2.out.cell0 5
  have g0 := T2.out.fr0 0
  have g1 := T2.out.fr0 1
  have g2 := T2.out.fr0 2
  have g3 := T2.out.fr0 3
  have g4 := T2.out.fr0 4
  have g5 := T2.out.fr0 5
  by_cases h0 : he = 0
  · have t0 : ((he : Int) == 0) = true := beq_iff_eq.2 (by omega)
    by_cases h1 : hp = -1
    · have t1 : (hp == -1) = true := beq_iff_eq.2 h1
      subst h0 h1
      clear t0 t1
      go_wp2
      have T4 := hide ((((((T3.out.set0 0 (.int .i64 3)).set0 1 (.string hn)).set0 2 (.int .i64 (-1))).set0 3 (.string ⟨#[]⟩)).set0 4 (.string ⟨#[]⟩)).set0 5 (.bool false))
      generalize ((((((((w2.setCell ⟨w.heap.size + 1, 1, none⟩ (.string hn)).setCell ⟨w.heap.size + 1, 2, none⟩ (.int .i64 (-1))).setCell ⟨w.heap.size, 0, none⟩ (.int .i64 3)).setCell ⟨w.heap.size, 1, none⟩ (.string hn)).setCell ⟨w.heap.size, 2, none⟩ (.int .i64 (-1))).setCell ⟨w.heap.size, 3, none⟩ (.string ⟨#[]⟩)).setCell ⟨w.heap.size, 4, none⟩ (.string ⟨#[]⟩)).setCell ⟨w.heap.size, 5, none⟩ (.bool false)) = w4 at T4 ⊢
      have k0 : w4.cell? ⟨w.heap.size, 0, none⟩ = some (.int .i64 3) := T4.out.cell0 0
      have k1 : w4.cell? ⟨w.heap.size, 1, none⟩ = some (.string hn) := T4.out.cell0 1
      have k2 : w4.cell? ⟨w.heap.size, 2, none⟩ = some (.int .i64 (-1)) := T4.out.cell0 2
      have k3 : w4.cell? ⟨w.heap.size, 3, none⟩ = some (.string ⟨#[]⟩) := T4.out.cell0 3
      have k4 : w4.cell? ⟨w.heap.size, 4, none⟩ = some (.string ⟨#[]⟩) := T4.out.cell0 4
      have k5 : w4.cell? ⟨w.heap.size, 5, none⟩ = some (.bool false) := T4.out.cell0 5
      clear d0 d1 d2 d3 d4 d5 r0 r1 r2 r3 r4 r5 g0 g1 g2 g3 g4 g5
      refine bodyPost_ret (v := .tuple #[tgV 3 hn (-1) ⟨#[]⟩ ⟨#[]⟩ false, .int .i64 62]) (by simp [results, Tryz.results29, go_sem, k0, k1, k2, k3, k4, k5, tgV]) rfl ⟨ret_tg ⟨rfl, by first | rfl | simp⟩, T4.out.b⟩
    · have t1 : (hp == -1) = false := beq_eq_false_iff_ne.2 h1
      have H1 := hide h1
      subst h0
      clear h1 t0
      go_wp2
      have T4 := hide ((((((T3.out.set0 0 (.int .i64 3)).set0 1 (.string hn)).set0 2 (.int .i64 hp)).set0 3 (.string ⟨#[]⟩)).set0 4 (.string ⟨#[]⟩)).set0 5 (.bool false))
      generalize ((((((((w2.setCell ⟨w.heap.size + 1, 1, none⟩ (.string hn)).setCell ⟨w.heap.size + 1, 2, none⟩ (.int .i64 hp)).setCell ⟨w.heap.size, 0, none⟩ (.int .i64 3)).setCell ⟨w.heap.size, 1, none⟩ (.string hn)).setCell ⟨w.heap.size, 2, none⟩ (.int .i64 hp)).setCell ⟨w.heap.size, 3, none⟩ (.string ⟨#[]⟩)).setCell ⟨w.heap.size, 4, none⟩ (.string ⟨#[]⟩)).setCell ⟨w.heap.size, 5, none⟩ (.bool false)) = w4 at T4 ⊢
      have k0 : w4.cell? ⟨w.heap.size, 0, none⟩ = some (.int .i64 3) := T4.out.cell0 0
      have k1 : w4.cell? ⟨w.heap.size, 1, none⟩ = some (.string hn) := T4.out.cell0 1
      have k2 : w4.cell? ⟨w.heap.size, 2, none⟩ = some (.int .i64 hp) := T4.out.cell0 2
      have k3 : w4.cell? ⟨w.heap.size, 3, none⟩ = some (.string ⟨#[]⟩) := T4.out.cell0 3
      have k4 : w4.cell? ⟨w.heap.size, 4, none⟩ = some (.string ⟨#[]⟩) := T4.out.cell0 4
      have k5 : w4.cell? ⟨w.heap.size, 5, none⟩ = some (.bool false) := T4.out.cell0 5
      clear d0 d1 d2 d3 d4 d5 r0 r1 r2 r3 r4 r5 g0 g1 g2 g3 g4 g5
      refine bodyPost_ret (v := .tuple #[tgV 3 hn hp ⟨#[]⟩ ⟨#[]⟩ false, .int .i64 0]) (by simp [results, Tryz.results29, go_sem, k0, k1, k2, k3, k4, k5, tgV]) rfl ⟨ret_tg ⟨rfl, by first | rfl | (rw [if_neg H1.out]) | (rw [if_pos rfl, if_neg H1.out])⟩, T4.out.b⟩
  · have t0 : ((he : Int) == 0) = false := beq_eq_false_iff_ne.2 (by omega)
    have H0 := hide h0
    clear h0
    go_wp2
    have T4 := hide ((((((T3.out.set0 0 (.int .i64 3)).set0 1 (.string hn)).set0 2 (.int .i64 hp)).set0 3 (.string ⟨#[]⟩)).set0 4 (.string ⟨#[]⟩)).set0 5 (.bool false))
    generalize ((((((((w2.setCell ⟨w.heap.size + 1, 1, none⟩ (.string hn)).setCell ⟨w.heap.size + 1, 2, none⟩ (.int .i64 hp)).setCell ⟨w.heap.size, 0, none⟩ (.int .i64 3)).setCell ⟨w.heap.size, 1, none⟩ (.string hn)).setCell ⟨w.heap.size, 2, none⟩ (.int .i64 hp)).setCell ⟨w.heap.size, 3, none⟩ (.string ⟨#[]⟩)).setCell ⟨w.heap.size, 4, none⟩ (.string ⟨#[]⟩)).setCell ⟨w.heap.size, 5, none⟩ (.bool false)) = w4 at T4 ⊢
    have k0 : w4.cell? ⟨w.heap.size, 0, none⟩ = some (.int .i64 3) := T4.out.cell0 0
    have k1 : w4.cell? ⟨w.heap.size, 1, none⟩ = some (.string hn) := T4.out.cell0 1
    have k2 : w4.cell? ⟨w.heap.size, 2, none⟩ = some (.int .i64 hp) := T4.out.cell0 2
    have k3 : w4.cell? ⟨w.heap.size, 3, none⟩ = some (.string ⟨#[]⟩) := T4.out.cell0 3
    have k4 : w4.cell? ⟨w.heap.size, 4, none⟩ = some (.string ⟨#[]⟩) := T4.out.cell0 4
    have k5 : w4.cell? ⟨w.heap.size, 5, none⟩ = some (.bool false) := T4.out.cell0 5
    clear d0 d1 d2 d3 d4 d5 r0 r1 r2 r3 r4 r5 g0 g1 g2 g3 g4 g5
    refine bodyPost_ret (v := .tuple #[tgV 3 hn hp ⟨#[]⟩ ⟨#[]⟩ false, .int .i64 he]) (by simp [results, Tryz.results29, go_sem, k0, k1, k2, k3, k4, k5, tgV]) rfl ⟨ret_tg ⟨rfl, by first | rfl | (rw [if_neg H0.out])⟩, T4.out.b⟩
end Go.Proofs.YtacnnomkacfdbaaGreatDoor
/- Which form a target must have; Parse, when what read tells is known. -/
namespace Go.Proofs.YtacnnomkacfdbaaGreatDoor
open Go.ChangeShapes Go.WideShapes Go.ChangeAt Go.RowKit

def connectL : List UInt8 := [67, 79, 78, 78, 69, 67, 84]
def optionsL : List UInt8 := [79, 80, 84, 73, 79, 78, 83]
def httpL : List UInt8 := [104, 116, 116, 112, 58, 47, 47]
def formN (m l : List UInt8) : Nat := if m = connectL then 3 else if m = optionsL ∧ l = [42] then 4 else if l.head? = some 47 then 1 else if 7 ≤ l.length ∧ sameB (l.take 7) httpL = true then 2 else 0
theorem ret_intN {a b : Int} (h : b = a) : Ending.returned (.int .i64 a) = .returned (.int .i64 b) := by rw [h]
set_option maxHeartbeats 1000000 in
theorem form_any (m s : ByteArray) (w : World) :
    Calls Tryz.prog 30 #[.string m, .string s] w fun e w' => e = .returned (.int .i64 (formN m.data.toList s.data.toList : Nat)) ∧ Below w.heap.size w w' := by
  have hP := Tryz.strings_HasPrefix s ⟨#[47]⟩
  rw [show (⟨#[47]⟩ : ByteArray).data.toList = [47] from rfl, prefix_head] at hP
  have e1 := str_eq m [67, 79, 78, 78, 69, 67, 84]
  have e2 := str_eq m [79, 80, 84, 73, 79, 78, 83]
  have e3 := str_eq s [42]
  unfold formN
  by_cases h1 : m.data.toList = connectL
  · rw [if_pos h1]
    have t1 : (m.toList == [67, 79, 78, 78, 69, 67, 84]) = true := by rw [e1]; exact decide_eq_true h1
    clear e1 e2 e3 h1 hP
    go_enter Tryz.func30, Tryz.ntmps30
    go_wp2
    go_ret
    exact ⟨rfl, Below.refl _ _⟩
  · rw [if_neg h1]
    have t1 : (m.toList == [67, 79, 78, 78, 69, 67, 84]) = false := by rw [e1]; exact decide_eq_false h1
    by_cases h2 : m.data.toList = optionsL ∧ s.data.toList = [42]
    · rw [if_pos h2]
      have t2 : (m.toList == [79, 80, 84, 73, 79, 78, 83]) = true := by rw [e2]; exact decide_eq_true h2.1
      have t3 : (s.toList == [42]) = true := by rw [e3]; exact decide_eq_true h2.2
      clear e1 e2 e3 h1 h2 hP
      go_enter Tryz.func30, Tryz.ntmps30
      go_wp2
      go_ret
      exact ⟨rfl, Below.refl _ _⟩
    · rw [if_neg h2]
      have t23 : ((m.toList == [79, 80, 84, 73, 79, 78, 83]) = false) ∨ ((m.toList == [79, 80, 84, 73, 79, 78, 83]) = true ∧ (s.toList == [42]) = false) := by
        rw [e2, e3]
        by_cases h3 : m.data.toList = optionsL
        · exact .inr ⟨decide_eq_true h3, decide_eq_false fun h4 => h2 ⟨h3, h4⟩⟩
        · exact .inl (decide_eq_false h3)
      clear e1 e2 e3 h1 h2
      by_cases h4 : s.data.toList.head? = some 47
      · rw [if_pos h4]
        rw [decide_eq_true h4] at hP
        have HP := hide hP
        clear hP h4
        rcases t23 with t2 | ⟨t2, t3⟩
        · go_enter Tryz.func30, Tryz.ntmps30
          go_wp2_with (go_at_call 41; refine (HP.out _).mono ?_; rintro e w' ⟨rfl, rfl⟩)
          go_ret
          exact ⟨rfl, Below.refl _ _⟩
        · go_enter Tryz.func30, Tryz.ntmps30
          go_wp2_with (go_at_call 41; refine (HP.out _).mono ?_; rintro e w' ⟨rfl, rfl⟩)
          go_ret
          exact ⟨rfl, Below.refl _ _⟩
      · rw [if_neg h4]
        rw [decide_eq_false h4] at hP
        have HP := hide hP
        clear hP h4
        by_cases h7 : 7 ≤ s.size
        · have h7' : (7 : Int) ≤ (s.size : Int) := by omega
          have hes : (s.extract 0 7).size = 7 := by rw [ext_size]; omega
          have hS := fun w => same_any (s.extract 0 7) ⟨#[104, 116, 116, 112, 58, 47, 47]⟩ w (by unfold maxLen; omega) (by unfold maxLen; decide)
          rw [ext_take, show (⟨#[104, 116, 116, 112, 58, 47, 47]⟩ : ByteArray).data.toList = httpL from rfl] at hS
          rw [size_len]
          cases hb : sameB (s.data.toList.take 7) httpL with
          | true =>
            rw [hb] at hS
            rw [if_pos ⟨h7, rfl⟩]
            have HS := hide hS
            clear hS hb
            rcases t23 with t2 | ⟨t2, t3⟩
            · go_enter Tryz.func30, Tryz.ntmps30
              go_wp2_with (first | (go_at_call 41; refine (HP.out _).mono ?_; rintro e w' ⟨rfl, rfl⟩) | (go_at_call 57; refine (HS.out _).mono ?_; rintro e w2 ⟨rfl, b2⟩))
              go_ret
              exact ⟨rfl, b2⟩
            · go_enter Tryz.func30, Tryz.ntmps30
              go_wp2_with (first | (go_at_call 41; refine (HP.out _).mono ?_; rintro e w' ⟨rfl, rfl⟩) | (go_at_call 57; refine (HS.out _).mono ?_; rintro e w2 ⟨rfl, b2⟩))
              go_ret
              exact ⟨rfl, b2⟩
          | false =>
            rw [hb] at hS
            rw [if_neg (by simp)]
            have HS := hide hS
            clear hS hb
            rcases t23 with t2 | ⟨t2, t3⟩
            · go_enter Tryz.func30, Tryz.ntmps30
              go_wp2_with (first | (go_at_call 41; refine (HP.out _).mono ?_; rintro e w' ⟨rfl, rfl⟩) | (go_at_call 57; refine (HS.out _).mono ?_; rintro e w2 ⟨rfl, b2⟩))
              go_ret
              exact ⟨rfl, b2⟩
            · go_enter Tryz.func30, Tryz.ntmps30
              go_wp2_with (first | (go_at_call 41; refine (HP.out _).mono ?_; rintro e w' ⟨rfl, rfl⟩) | (go_at_call 57; refine (HS.out _).mono ?_; rintro e w2 ⟨rfl, b2⟩))
              go_ret
              exact ⟨rfl, b2⟩
        · have h7' : ¬ (7 : Int) ≤ (s.size : Int) := by omega
          rw [if_neg (by rw [size_len]; omega)]
          rcases t23 with t2 | ⟨t2, t3⟩
          · go_enter Tryz.func30, Tryz.ntmps30
            go_wp2_with (go_at_call 41; refine (HP.out _).mono ?_; rintro e w' ⟨rfl, rfl⟩)
            go_ret
            exact ⟨rfl, Below.refl _ _⟩
          · go_enter Tryz.func30, Tryz.ntmps30
            go_wp2_with (go_at_call 41; refine (HP.out _).mono ?_; rintro e w' ⟨rfl, rfl⟩)
            go_ret
            exact ⟨rfl, Below.refl _ _⟩

/-- One block of the function's own: what it hands back. -/
structure One (w x : World) (c0 : Array Value) : Prop where
  h0 : x.heap[w.heap.size]? = some (.cells c0 53)
  b : Below w.heap.size w x
theorem One.start (w : World) (c0 : Array Value) : One w (w.alloc (.cells c0 53)) c0 := ⟨hp_new w _, (Below.refl _ w).alloc (Nat.le_refl _) _⟩
theorem One.below {w x y : World} {c0 : Array Value} (h : One w x c0) (hb : Below x.heap.size x y) : One w y c0 := ⟨(hb.block _ (lt_of_heap h.h0)).trans h.h0, h.b.trans (hb.mono h.b.size)⟩
theorem One.set0 {w x : World} {c0 : Array Value} (h : One w x c0) (i : Nat) (v : Value) : One w (x.setCell ⟨w.heap.size, i, none⟩ v) (c0.setIfInBounds i v) := ⟨hp_set h.h0 i v, h.b.setCell (Nat.le_refl _) _⟩
theorem One.cell0 {w x : World} {c0 : Array Value} (h : One w x c0) (i : Nat) : x.cell? ⟨w.heap.size, i, none⟩ = c0[i]? := cell_at h.h0 i
theorem One.fr0 {w x : World} {c0 : Array Value} (h : One w x c0) (i : Nat) : x.frozen? ⟨w.heap.size, i, none⟩ = false := by rw [frozen_at h.h0]; simp

set_option maxHeartbeats 1000000 in
theorem parse_of (m s : ByteArray) (w : World) (hs : s.size ≤ 8192) (hm : MX w) (f : Nat) (hf : formN m.data.toList s.data.toList = f) (h : ByteArray) (p : Int) (pa q : ByteArray) (a : Bool) (re : Int)
    (hR : ∀ w', MX w' → Calls Tryz.prog 29 #[.int .i64 (f : Int), .string s] w' fun e w'' => e = .returned (.tuple #[tgV f h p pa q a, .int .i64 re]) ∧ Below w'.heap.size w' w'') :
    Calls Tryz.prog 17 #[.string m, .string s] w fun e w' => e = .returned (.tuple #[if re = 0 then tgV f h p pa q a else tgV 0 ⟨#[]⟩ 0 ⟨#[]⟩ ⟨#[]⟩ false, .int .i64 re]) ∧ Below w.heap.size w w' := by
  have hF := fun w => form_any m s w
  rw [hf] at hF
  have HF := hide hF
  have HR := hide hR
  have HM := hide hm
  clear hF hR hm hf
  go_enter Tryz.func17, Tryz.ntmps17
  go_wp2_with fail
  have T0 := hide (One.start w #[.int .i64 0, .string ⟨#[]⟩, .int .i64 0, .string ⟨#[]⟩, .string ⟨#[]⟩, .bool false])
  generalize (w.alloc (.cells #[.int .i64 0, .string ⟨#[]⟩, .int .i64 0, .string ⟨#[]⟩, .string ⟨#[]⟩, .bool false] 53)) = x at T0 ⊢
  refine (HF.out _).mono ?_
  rintro e w1 ⟨rfl, b1⟩
  have T1 := hide (T0.out.below b1)
  clear b1 T0
  go_wp2_with fail
  refine (HR.out _ (HM.out.below T1.out.b)).mono ?_
  rintro e w2 ⟨rfl, b2⟩
  have T2 := hide (T1.out.below b2)
  clear b2 T1
  unfold tgV
  go_upto_region 4 with fail
  have T3 := hide (T2.out.below ((Below.refl _ w2).alloc (Nat.le_refl _) (.cells #[.int .i64 (f : Int), .string h, .int .i64 p, .string pa, .string q, .bool a] 53)))
  have HD := hide (hp_new w2 (.cells #[.int .i64 (f : Int), .string h, .int .i64 p, .string pa, .string q, .bool a] 53))
  generalize w2.alloc (.cells #[.int .i64 (f : Int), .string h, .int .i64 p, .string pa, .string q, .bool a] 53) = w3 at T3 HD ⊢
  generalize w2.heap.size = b at HD ⊢
  clear T2
  have d0 : w3.cell? ⟨b, 0, none⟩ = some (.int .i64 (f : Int)) := cell_at HD.out 0
  have d1 : w3.cell? ⟨b, 1, none⟩ = some (.string h) := cell_at HD.out 1
  have d2 : w3.cell? ⟨b, 2, none⟩ = some (.int .i64 p) := cell_at HD.out 2
  have d3 : w3.cell? ⟨b, 3, none⟩ = some (.string pa) := cell_at HD.out 3
  have d4 : w3.cell? ⟨b, 4, none⟩ = some (.string q) := cell_at HD.out 4
  have d5 : w3.cell? ⟨b, 5, none⟩ = some (.bool a) := cell_at HD.out 5
  have r0 : w3.cell? ⟨w.heap.size, 0, none⟩ = some (.int .i64 0) := T3.out.cell0 0
  have r1 : w3.cell? ⟨w.heap.size, 1, none⟩ = some (.string ⟨#[]⟩) := T3.out.cell0 1
  have r2 : w3.cell? ⟨w.heap.size, 2, none⟩ = some (.int .i64 0) := T3.out.cell0 2
  have r3 : w3.cell? ⟨w.heap.size, 3, none⟩ = some (.string ⟨#[]⟩) := T3.out.cell0 3
  have r4 : w3.cell? ⟨w.heap.size, 4, none⟩ = some (.string ⟨#[]⟩) := T3.out.cell0 4
  have r5 : w3.cell? ⟨w.heap.size, 5, none⟩ = some (.bool false) := T3.out.cell0 5
  have g0 := T3.out.fr0 0
  have g1 := T3.out.fr0 1
  have g2 := T3.out.fr0 2
  have g3 := T3.out.fr0 3
  have g4 := T3.out.fr0 4
  have g5 := T3.out.fr0 5
  by_cases h0 : re = 0
  · subst h0
    go_wp2
    have T4 := hide ((((((T3.out.set0 0 (.int .i64 (f : Int))).set0 1 (.string h)).set0 2 (.int .i64 p)).set0 3 (.string pa)).set0 4 (.string q)).set0 5 (.bool a))
    generalize ((((((w3.setCell ⟨w.heap.size, 0, none⟩ (.int .i64 (f : Int))).setCell ⟨w.heap.size, 1, none⟩ (.string h)).setCell ⟨w.heap.size, 2, none⟩ (.int .i64 p)).setCell ⟨w.heap.size, 3, none⟩ (.string pa)).setCell ⟨w.heap.size, 4, none⟩ (.string q)).setCell ⟨w.heap.size, 5, none⟩ (.bool a)) = w4 at T4 ⊢
    have k0 : w4.cell? ⟨w.heap.size, 0, none⟩ = some (.int .i64 (f : Int)) := T4.out.cell0 0
    have k1 : w4.cell? ⟨w.heap.size, 1, none⟩ = some (.string h) := T4.out.cell0 1
    have k2 : w4.cell? ⟨w.heap.size, 2, none⟩ = some (.int .i64 p) := T4.out.cell0 2
    have k3 : w4.cell? ⟨w.heap.size, 3, none⟩ = some (.string pa) := T4.out.cell0 3
    have k4 : w4.cell? ⟨w.heap.size, 4, none⟩ = some (.string q) := T4.out.cell0 4
    have k5 : w4.cell? ⟨w.heap.size, 5, none⟩ = some (.bool a) := T4.out.cell0 5
    clear d0 d1 d2 d3 d4 d5 r0 r1 r2 r3 r4 r5 g0 g1 g2 g3 g4 g5
    exact bodyPost_ret (v := .tuple #[.agg #[.int .i64 (f : Int), .string h, .int .i64 p, .string pa, .string q, .bool a], .int .i64 0]) (by simp [results, Tryz.results17, go_sem, k0, k1, k2, k3, k4, k5]) rfl ⟨rfl, T4.out.b⟩
  · have t0 : (re != 0) = true := by rw [bne_iff_ne]; exact h0
    have H0 := hide h0
    clear h0
    go_wp2
    have T4 := hide ((((((T3.out.set0 0 (.int .i64 0)).set0 1 (.string ⟨#[]⟩)).set0 2 (.int .i64 0)).set0 3 (.string ⟨#[]⟩)).set0 4 (.string ⟨#[]⟩)).set0 5 (.bool false))
    generalize ((((((w3.setCell ⟨w.heap.size, 0, none⟩ (.int .i64 0)).setCell ⟨w.heap.size, 1, none⟩ (.string ⟨#[]⟩)).setCell ⟨w.heap.size, 2, none⟩ (.int .i64 0)).setCell ⟨w.heap.size, 3, none⟩ (.string ⟨#[]⟩)).setCell ⟨w.heap.size, 4, none⟩ (.string ⟨#[]⟩)).setCell ⟨w.heap.size, 5, none⟩ (.bool false)) = w4 at T4 ⊢
    have k0 : w4.cell? ⟨w.heap.size, 0, none⟩ = some (.int .i64 0) := T4.out.cell0 0
    have k1 : w4.cell? ⟨w.heap.size, 1, none⟩ = some (.string ⟨#[]⟩) := T4.out.cell0 1
    have k2 : w4.cell? ⟨w.heap.size, 2, none⟩ = some (.int .i64 0) := T4.out.cell0 2
    have k3 : w4.cell? ⟨w.heap.size, 3, none⟩ = some (.string ⟨#[]⟩) := T4.out.cell0 3
    have k4 : w4.cell? ⟨w.heap.size, 4, none⟩ = some (.string ⟨#[]⟩) := T4.out.cell0 4
    have k5 : w4.cell? ⟨w.heap.size, 5, none⟩ = some (.bool false) := T4.out.cell0 5
    clear d0 d1 d2 d3 d4 d5 r0 r1 r2 r3 r4 r5 g0 g1 g2 g3 g4 g5
    exact bodyPost_ret (v := .tuple #[.agg #[.int .i64 0, .string ⟨#[]⟩, .int .i64 0, .string ⟨#[]⟩, .string ⟨#[]⟩, .bool false], .int .i64 re]) (by simp [results, Tryz.results17, go_sem, k0, k1, k2, k3, k4, k5]) rfl ⟨ret_tg ⟨rfl, rfl⟩, T4.out.b⟩
end Go.Proofs.YtacnnomkacfdbaaGreatDoor
/- That the program speaks at all: three answers. -/
namespace Go.Proofs.YtacnnomkacfdbaaGreatDoor
open Go.ChangeShapes Go.WideShapes Go.ChangeAt Go.RowKit

theorem parse_origin (m s : ByteArray) (w : World) (hs : s.size ≤ 8192) (hm : MX w) (hf : formN m.data.toList s.data.toList = 1) :
    Calls Tryz.prog 17 #[.string m, .string s] w fun e w' => e = .returned (.tuple #[if locB s = true then tgV 1 ⟨#[]⟩ (-1) (cutP s) (cutQ s) (cutA s) else tgV 0 ⟨#[]⟩ 0 ⟨#[]⟩ ⟨#[]⟩ false, .int .i64 (if locB s then 0 else 60)]) ∧ Below w.heap.size w w' := by
  refine (parse_of m s w hs hm 1 hf ⟨#[]⟩ (-1) (cutP s) (cutQ s) (cutA s) (if locB s then 0 else 60) (fun w' hm' => read_origin s w' (by omega) hm')).mono ?_
  rintro e w' ⟨rfl, b⟩
  refine ⟨?_, b⟩
  cases locB s <;> rfl
theorem sp_parse (w : World) (hm : MX w) : Calls Tryz.prog 17 #[.string ⟨#[71, 69, 84]⟩, .string ⟨#[47, 97, 63, 98]⟩] w fun e w' => e = .returned (.tuple #[tgV 1 ⟨#[]⟩ (-1) ⟨#[47, 97]⟩ ⟨#[98]⟩ true, .int .i64 0]) ∧ Below w.heap.size w w' := by
  have h := parse_origin ⟨#[71, 69, 84]⟩ ⟨#[47, 97, 63, 98]⟩ w (by decide) hm (by decide)
  rw [show locB ⟨#[47, 97, 63, 98]⟩ = true by decide +kernel, if_pos rfl, if_pos rfl, show cutP ⟨#[47, 97, 63, 98]⟩ = ⟨#[47, 97]⟩ by decide +kernel, show cutQ ⟨#[47, 97, 63, 98]⟩ = ⟨#[98]⟩ by decide +kernel, show cutA ⟨#[47, 97, 63, 98]⟩ = true by decide +kernel] at h
  exact h
theorem sp_host (w : World) : Calls Tryz.prog 32 #[.string ⟨#[69, 120, 46, 99, 111, 109, 58, 56, 48]⟩] w fun e w' => e = .returned (.tuple #[.string ⟨#[101, 120, 46, 99, 111, 109]⟩, .int .i64 80, .int .i64 0]) ∧ Below w.heap.size w w' := by
  have h := host_any ⟨#[69, 120, 46, 99, 111, 109, 58, 56, 48]⟩ w (by decide)
  rw [show hostS ⟨#[69, 120, 46, 99, 111, 109, 58, 56, 48]⟩ = ⟨#[101, 120, 46, 99, 111, 109]⟩ by decide +kernel, show hostP (⟨#[69, 120, 46, 99, 111, 109, 58, 56, 48]⟩ : ByteArray).data.toList = 80 by decide +kernel, show hostE (⟨#[69, 120, 46, 99, 111, 109, 58, 56, 48]⟩ : ByteArray).data.toList = 0 by decide +kernel] at h
  exact h
theorem sp_clean (w : World) (hm : MX w) : Calls Tryz.prog 33 #[.string ⟨#[47, 97, 47, 46, 47, 98, 47, 46, 46, 47, 99, 47, 46, 46]⟩] w fun e w' => e = .returned (.tuple #[.string ⟨#[47, 97, 47]⟩, .int .i64 0]) ∧ Below w.heap.size w w' := by
  have h := clean_any ⟨#[47, 97, 47, 46, 47, 98, 47, 46, 46, 47, 99, 47, 46, 46]⟩ w hm
  rw [show cleanS ⟨#[47, 97, 47, 46, 47, 98, 47, 46, 46, 47, 99, 47, 46, 46]⟩ = ⟨#[47, 97, 47]⟩ by decide +kernel, show cleanE (⟨#[47, 97, 47, 46, 47, 98, 47, 46, 46, 47, 99, 47, 46, 46]⟩ : ByteArray).data.toList = 0 by decide +kernel] at h
  exact h
end Go.Proofs.YtacnnomkacfdbaaGreatDoor
/- A request's host and path, where its target is of the first form and it has one Host. -/
namespace Go.Proofs.YtacnnomkacfdbaaGreatDoor
open Go.ChangeShapes Go.WideShapes Go.ChangeAt Go.RowKit

theorem pathOf_one (w : World) (ho : ByteArray) (po : Int) (pa qu : ByteArray) (ak : Bool) (hm : MX w) :
    Calls Tryz.prog 19 #[tgV 1 ho po pa qu ak] w fun e w' => e = .returned (.string (cleanS pa)) ∧ Below w.heap.size w w' := by
  have HC := hide (fun W h => clean_any pa W h)
  have HM := hide hm
  clear hm
  unfold tgV
  generalize cleanS pa = s at HC ⊢
  generalize cleanE pa.data.toList = e0 at HC
  go_enter Tryz.func19, Tryz.ntmps19
  go_wp2_with fail
  have T0 := hide (Bl.one w #[.int .i64 1, .string ho, .int .i64 po, .string pa, .string qu, .bool ak] 53)
  generalize (w.alloc (.cells #[.int .i64 1, .string ho, .int .i64 po, .string pa, .string qu, .bool ak] 53)) = x at T0 ⊢
  refine (HC.out _ (HM.out.below T0.out.b)).mono ?_
  rintro e w1 ⟨rfl, bb⟩
  have T1 := hide (T0.out.below bb)
  clear bb T0
  go_wp2
  go_ret
  exact ⟨rfl, T1.out.b⟩
def hostN : ByteArray := ⟨#[72, 111, 115, 116]⟩
set_option maxHeartbeats 1000000 in
theorem hostOf_one (w : World) (ho : ByteArray) (po : Int) (pa qu : ByteArray) (ak : Bool) (r : Bool) (me ta : ByteArray) (mi st : Int) (re : ByteArray) (l : Value) (A : List (ByteArray × ByteArray)) (hA : Flds w l A) (hs : Sm A) (h1 : (allS A hostN).length = 1) (y : ByteArray) (hy : (allS A hostN)[0]? = some y) :
    Calls Tryz.prog 18 #[tgV 1 ho po pa qu ak, .agg (hdC r me ta mi st re l)] w fun e w' => e = .returned (.tuple #[.string (hostS y), .int .i64 (hostE y.data.toList : Nat)]) ∧ Below w.heap.size w w' := by
  have HAL := hide (fun W h => all_any W l A hostN h hs (by decide))
  have hys : y.size ≤ 1048576 := allS_mem hs (List.mem_of_getElem? hy)
  have HH := hide (fun W => host_any y W (by omega))
  have F0 := hide hA
  obtain ⟨a0, c0, rfl, _, _⟩ := hA
  generalize allS A hostN = V at HAL h1 hy
  clear hs hys
  unfold hdC tgV
  unfold hostN at HAL
  generalize hostS y = s at HH ⊢
  generalize hostE y.data.toList = e0 at HH ⊢
  generalize hostP y.data.toList = p0 at HH
  go_enter Tryz.func18, Tryz.ntmps18
  go_wp2_with fail
  have T0 := hide (Bl.two w #[.int .i64 1, .string ho, .int .i64 po, .string pa, .string qu, .bool ak] 53 #[.bool r, .string me, .string ta, .int .i64 mi, .int .i64 st, .string re, .slice a0 A.length c0] 28)
  generalize ((w.alloc (.cells #[.int .i64 1, .string ho, .int .i64 po, .string pa, .string qu, .bool ak] 53)).alloc (.cells #[.bool r, .string me, .string ta, .int .i64 mi, .int .i64 st, .string re, .slice a0 A.length c0] 28)) = x at T0 ⊢
  refine (HAL.out _ (F0.out.below T0.out.b)).mono ?_
  rintro e w1 ⟨v1, rfl, hV, bb⟩
  have T1 := hide (T0.out.below bb)
  obtain ⟨a1, c1, rfl, hcv⟩ := Strs.of_row hV
  obtain ⟨g, rfl, hg, r0⟩ := hcv 0 (by omega)
  rw [(List.getElem?_eq_some_iff.1 hy).2] at r0
  clear bb T0 HAL hV hcv hy
  have t0 : ((V.length : Int) == 0) = false := beq_eq_false_iff_ne.2 (by omega)
  have t1 : ((V.length : Int) == 1) = true := beq_iff_eq.2 (by omega)
  have hpos : 0 < V.length := by omega
  clear h1
  go_wp2_with fail
  refine (HH.out _).mono ?_
  rintro e w2 ⟨rfl, bb⟩
  have T2 := hide (T1.out.below bb)
  clear bb T1
  go_wp2
  go_ret2
  exact ⟨rfl, T2.out.b⟩
set_option maxHeartbeats 1000000 in
theorem place_one (w : World) (me ta : ByteArray) (mi st : Int) (re : ByteArray) (l : Value) (A : List (ByteArray × ByteArray)) (hA : Flds w l A) (hs : Sm A) (h1 : (allS A hostN).length = 1) (y : ByteArray) (hy : (allS A hostN)[0]? = some y) (hm : MX w)
    (ht : ta.size ≤ 8192) (hf : formN me.data.toList ta.data.toList = 1) (hl : locB ta = true) (he : hostE y.data.toList = 0) :
    Calls Tryz.prog 7 #[.agg (hdC true me ta mi st re l)] w fun e w' => e = .returned (.tuple #[.string (hostS y), .string (cleanS (cutP ta)), .int .i64 0]) ∧ Below w.heap.size w w' := by
  have HP := hide (fun W h => parse_origin me ta W ht h hf)
  have HH := hide (fun W h => hostOf_one W ⟨#[]⟩ (-1) (cutP ta) (cutQ ta) (cutA ta) true me ta mi st re l A h hs h1 y hy)
  have HC := hide (fun W h => pathOf_one W ⟨#[]⟩ (-1) (cutP ta) (cutQ ta) (cutA ta) h)
  rw [hl, if_pos rfl, if_pos rfl] at HP
  rw [he] at HH
  have HM := hide hm
  have F0 := hide hA
  obtain ⟨a0, c0, rfl, _, _⟩ := hA
  clear hs h1 hy hm ht hf hl he
  generalize hostS y = s at HH ⊢
  generalize cleanS (cutP ta) = pt at HC ⊢
  generalize cutP ta = tp at HP HH HC
  generalize cutQ ta = tq at HP HH HC
  generalize cutA ta = tk at HP HH HC
  unfold tgV at HP HH HC
  unfold hdC at HH ⊢
  go_enter Tryz.func7, Tryz.ntmps7
  go_wp2_with fail
  have T0 := hide (Bl.one w #[.bool true, .string me, .string ta, .int .i64 mi, .int .i64 st, .string re, .slice a0 A.length c0] 28)
  generalize (w.alloc (.cells #[.bool true, .string me, .string ta, .int .i64 mi, .int .i64 st, .string re, .slice a0 A.length c0] 28)) = x at T0 ⊢
  refine (HP.out _ (HM.out.below T0.out.b)).mono ?_
  rintro e w1 ⟨rfl, bb⟩
  have T1 := hide (T0.out.below bb)
  clear bb T0 HP
  go_upto_region 6 with fail
  have U2 := hide (Bl.one w1 #[.int .i64 1, .string ⟨#[]⟩, .int .i64 (-1), .string tp, .string tq, .bool tk] 53)
  have T2 := hide (T1.out.below U2.out.b)
  generalize (w1.alloc (.cells #[.int .i64 1, .string ⟨#[]⟩, .int .i64 (-1), .string tp, .string tq, .bool tk] 53)) = y2 at U2 T2 ⊢
  have q0 : y2.cell? ⟨w1.heap.size, 0, none⟩ = some (.int .i64 1) := U2.out.cell 0 rfl 0
  have q1 : y2.cell? ⟨w1.heap.size, 1, none⟩ = some (.string ⟨#[]⟩) := U2.out.cell 0 rfl 1
  have q2 : y2.cell? ⟨w1.heap.size, 2, none⟩ = some (.int .i64 (-1)) := U2.out.cell 0 rfl 2
  have q3 : y2.cell? ⟨w1.heap.size, 3, none⟩ = some (.string tp) := U2.out.cell 0 rfl 3
  have q4 : y2.cell? ⟨w1.heap.size, 4, none⟩ = some (.string tq) := U2.out.cell 0 rfl 4
  have q5 : y2.cell? ⟨w1.heap.size, 5, none⟩ = some (.bool tk) := U2.out.cell 0 rfl 5
  have n0 : y2.cell? ⟨w.heap.size, 0, none⟩ = some (.bool true) := T2.out.cell 0 rfl 0
  have n1 : y2.cell? ⟨w.heap.size, 1, none⟩ = some (.string me) := T2.out.cell 0 rfl 1
  have n2 : y2.cell? ⟨w.heap.size, 2, none⟩ = some (.string ta) := T2.out.cell 0 rfl 2
  have n3 : y2.cell? ⟨w.heap.size, 3, none⟩ = some (.int .i64 mi) := T2.out.cell 0 rfl 3
  have n4 : y2.cell? ⟨w.heap.size, 4, none⟩ = some (.int .i64 st) := T2.out.cell 0 rfl 4
  have n5 : y2.cell? ⟨w.heap.size, 5, none⟩ = some (.string re) := T2.out.cell 0 rfl 5
  have n6 : y2.cell? ⟨w.heap.size, 6, none⟩ = some (.slice a0 A.length c0) := T2.out.cell 0 rfl 6
  clear T1
  go_wp2_with fail
  refine (HH.out _ (F0.out.below T2.out.b)).mono ?_
  rintro e w2 ⟨rfl, bb⟩
  have T3 := hide (T2.out.below bb)
  have U3 := hide (U2.out.below bb)
  clear bb q0 q1 q2 q3 q4 q5 n0 n1 n2 n3 n4 n5 n6 T2 U2
  have q0 : w2.cell? ⟨w1.heap.size, 0, none⟩ = some (.int .i64 1) := U3.out.cell 0 rfl 0
  have q1 : w2.cell? ⟨w1.heap.size, 1, none⟩ = some (.string ⟨#[]⟩) := U3.out.cell 0 rfl 1
  have q2 : w2.cell? ⟨w1.heap.size, 2, none⟩ = some (.int .i64 (-1)) := U3.out.cell 0 rfl 2
  have q3 : w2.cell? ⟨w1.heap.size, 3, none⟩ = some (.string tp) := U3.out.cell 0 rfl 3
  have q4 : w2.cell? ⟨w1.heap.size, 4, none⟩ = some (.string tq) := U3.out.cell 0 rfl 4
  have q5 : w2.cell? ⟨w1.heap.size, 5, none⟩ = some (.bool tk) := U3.out.cell 0 rfl 5
  go_wp2_with fail
  refine (HC.out _ (HM.out.below T3.out.b)).mono ?_
  rintro e w3 ⟨rfl, bb⟩
  have T4 := hide (T3.out.below bb)
  clear bb q0 q1 q2 q3 q4 q5
  go_wp2
  go_ret3
  exact ⟨rfl, T4.out.b⟩
end Go.Proofs.YtacnnomkacfdbaaGreatDoor
