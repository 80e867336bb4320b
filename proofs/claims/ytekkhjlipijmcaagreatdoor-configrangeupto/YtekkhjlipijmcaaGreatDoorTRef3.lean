/- The document's Host. -/
import Derived.Test.YtekkhjlipijmcaaGreatDoorTRef2
import Derived.Test.YtekkhjlipijmcaaGreatDoorTPart
namespace Go.Proofs.YtekkhjlipijmcaaGreatDoor
open Go.ChangeShapes Go.WideShapes Go.ChangeAt Go.RowKit

def rnameOf (l : List UInt8) : List UInt8 := if lastI l 93 < lastI l 58 then l.take (lastI l 58).toNat else l
def rdigsOf (l : List UInt8) : List UInt8 := if lastI l 93 < lastI l 58 then l.drop ((lastI l 58).toNat + 1) else []
def rhostOk (l : List UInt8) : Bool := hostB (rnameOf l) && decide (portE (rdigsOf l) = 0)
def rhostH (l : List UInt8) : List UInt8 := if rhostOk l then lowerB (rnameOf l) else []
def rhostP (l : List UInt8) : Int := if rhostOk l then portV (rdigsOf l) else 0
def rhostE (l : List UInt8) : Nat := if hostB (rnameOf l) then portE (rdigsOf l) else 61
def rhostS (s : ByteArray) : ByteArray := sS (rhostH s.data.toList)
def rnameS (s : ByteArray) : ByteArray := sS (rnameOf s.data.toList)
def rdigsS (s : ByteArray) : ByteArray := sS (rdigsOf s.data.toList)
theorem rhost_no {s : ByteArray} (h : hostB (rnameOf s.data.toList) = false) : rhostS s = ⟨#[]⟩ ∧ rhostP s.data.toList = 0 ∧ ((rhostE s.data.toList : Nat) : Int) = 61 := by
  unfold rhostS rhostH rhostP rhostE rhostOk
  rw [h]
  exact ⟨rfl, rfl, rfl⟩
theorem rhost_bad {s : ByteArray} (h : hostB (rnameOf s.data.toList) = true) (h2 : portE (rdigsOf s.data.toList) = 62) : rhostS s = ⟨#[]⟩ ∧ rhostP s.data.toList = 0 ∧ ((rhostE s.data.toList : Nat) : Int) = 62 := by
  unfold rhostS rhostH rhostP rhostE rhostOk
  rw [h, h2]
  exact ⟨rfl, rfl, rfl⟩
theorem rhost_yes {s : ByteArray} (h : hostB (rnameOf s.data.toList) = true) (h2 : portE (rdigsOf s.data.toList) = 0) : rhostS s = lowS (rnameS s) ∧ rhostP s.data.toList = portV (rdigsOf s.data.toList) ∧ ((rhostE s.data.toList : Nat) : Int) = 0 := by
  unfold rhostS rhostH rhostP rhostE rhostOk
  rw [h, h2]
  refine ⟨?_, rfl, rfl⟩
  apply bytes_ext
  rw [sS_list, lowS_list]
  unfold rnameS
  rw [sS_list]
  rfl
theorem rname_some {s : ByteArray} {k : Nat} (h : lastI s.data.toList 93 < lastI s.data.toList 58) (hk : lastI s.data.toList 58 = k) : rnameS s = s.extract 0 k ∧ rdigsS s = s.extract (k + 1) s.size := by
  unfold rnameS rdigsS rnameOf rdigsOf
  rw [if_pos h, if_pos h, hk]
  exact ⟨bytes_ext (by rw [sS_list, ext_take]; rfl), bytes_ext (by rw [sS_list, ext_drop]; rfl)⟩
theorem rname_none {s : ByteArray} (h : ¬ lastI s.data.toList 93 < lastI s.data.toList 58) : rnameS s = s ∧ rdigsS s = ⟨#[]⟩ := by
  unfold rnameS rdigsS rnameOf rdigsOf
  rw [if_neg h, if_neg h]
  exact ⟨bytes_ext (sS_list _), rfl⟩
theorem ret3i {a c : ByteArray} {b d x y : Int} (h : c = a ∧ d = b ∧ y = x) : Ending.returned (.tuple #[.string a, .int .i64 b, .int .i64 x]) = .returned (.tuple #[.string c, .int .i64 d, .int .i64 y]) := by rw [h.1, h.2.1, h.2.2]
/-- Behind the parting: the name, the port. -/
theorem port_cases (d : List UInt8) : (d = [] ∧ portE d = 0 ∧ portV d = -1) ∨ (d ≠ [] ∧ portBad d = true ∧ portE d = 62) ∨ (d ≠ [] ∧ portBad d = false ∧ portE d = 0 ∧ portV d = numV 10 d) := by
  by_cases h : d = []
  · subst h; exact .inl ⟨rfl, rfl, rfl⟩
  · cases hb : portBad d with
    | true => exact .inr (.inl ⟨h, rfl, (port_bad h hb).2⟩)
    | false => exact .inr (.inr ⟨h, rfl, (port_ok h hb).2, (port_ok h hb).1⟩)
set_option maxHeartbeats 4000000 in
theorem rhost_any (s : ByteArray) (w : World) (hs : s.size ≤ 140737488355328) : Calls Tryz.prog 34 #[.string s] w fun e w' => e = .returned (.tuple #[.string (rhostS s), .int .i64 (rhostP s.data.toList), .int .i64 (rhostE s.data.toList : Nat)]) ∧ Below w.heap.size w w' := by
  have H1 := hide (fun w => rlast_any s 58 w hs)
  have H2 := hide (fun w => rlast_any s 93 w hs)
  have b1 := lastI_lt s.data.toList 58
  have b2 := lastI_lt s.data.toList 93
  rw [size_len] at b1 b2
  by_cases hlt : lastI s.data.toList 93 < lastI s.data.toList 58
  · obtain ⟨k, hk⟩ : ∃ k : Nat, lastI s.data.toList 58 = k := ⟨(lastI s.data.toList 58).toNat, by omega⟩
    have e12 := rname_some hlt hk
    obtain ⟨nm, eN⟩ : ∃ nm, s.extract 0 k = nm := ⟨_, rfl⟩
    obtain ⟨dg, eD⟩ : ∃ dg, s.extract (k + 1) s.size = dg := ⟨_, rfl⟩
    have zN : nm.size ≤ s.size := by rw [← eN, ext_size]; omega
    have zD : dg.size ≤ s.size := by rw [← eD, ext_size]; omega
    have mD : dg.size ≤ maxLen := by unfold maxLen; omega
    rw [eN, eD] at e12
    have lN : nm.data.toList = rnameOf s.data.toList := by rw [← e12.1]; exact sS_list _
    have lD : dg.data.toList = rdigsOf s.data.toList := by rw [← e12.2]; exact sS_list _
    have HN := hide (fun w => rnamed_any nm w (by omega))
    have HD := hide (fun w => rnumber_10 dg w mD)
    have HL := hide (fun w => rlower_any nm w (by omega))
    have hpc := port_cases dg.data.toList
    have hno := rhost_no (s := s)
    have hbad := rhost_bad (s := s)
    have hyes := rhost_yes (s := s)
    rw [e12.1] at hyes
    rw [← lN] at hno hbad hyes
    rw [← lD] at hbad hyes
    rw [hk] at hlt b1 H1
    have hlti : lastI s.data.toList 93 < (k : Int) := hlt
    have hks : (k : Int) < (s.size : Int) := by omega
    have hks1 : (k : Int) + 1 ≤ (s.size : Int) := by omega
    have hie : dg.toList.isEmpty = decide (dg.data.toList = []) := by rw [Lib.toList_data, Bool.eq_iff_iff, List.isEmpty_iff, decide_eq_true_eq]
    clear e12 lN lD hk hlt
    generalize rhostS s = r1 at hno hbad hyes ⊢
    generalize rhostP s.data.toList = r2 at hno hbad hyes ⊢
    generalize ((rhostE s.data.toList : Nat) : Int) = r3 at hno hbad hyes ⊢
    generalize lastI s.data.toList 93 = c93 at *
    generalize hostB nm.data.toList = hb at *
    generalize lowS nm = low at *
    cases hb with
    | false =>
      have HR := hide (hno rfl)
      clear hno hbad hyes hpc hie HD HL
      go_enter Tryz.func34, Tryz.ntmps34
      go_wp2_with fail
      refine (H1.out _).mono ?_
      rintro e w' ⟨rfl, rfl⟩
      go_wp2_with fail
      refine (H2.out _).mono ?_
      rintro e w' ⟨rfl, rfl⟩
      go_wp2_with fail
      refine (HN.out _).mono ?_
      rintro e w' ⟨rfl, rfl⟩
      go_wp2
      go_ret3
      exact ⟨ret3i HR.out, Below.refl _ _⟩
    | true =>
      rcases hpc with ⟨p1, p2, p3⟩ | ⟨p1, p2, p3⟩ | ⟨p1, p2, p3, p4⟩
      · have HR := hide (hyes rfl p2)
        rw [p3] at HR
        rw [decide_eq_true p1] at hie
        clear hno hbad hyes p1 p2 p3 HD
        go_enter Tryz.func34, Tryz.ntmps34
        go_wp2_with fail
        refine (H1.out _).mono ?_
        rintro e w' ⟨rfl, rfl⟩
        go_wp2_with fail
        refine (H2.out _).mono ?_
        rintro e w' ⟨rfl, rfl⟩
        go_wp2_with fail
        refine (HN.out _).mono ?_
        rintro e w' ⟨rfl, rfl⟩
        go_wp2_with fail
        refine (HL.out _).mono ?_
        rintro e w9 ⟨rfl, b9⟩
        go_wp2
        go_ret3
        exact ⟨ret3i HR.out, b9⟩
      · have HR := hide (hbad rfl p3)
        rw [decide_eq_false p1] at hie
        unfold portBad at p2
        clear hno hbad hyes p1 p3 HL
        rw [size_len] at p2
        generalize numV 10 dg.data.toList = v at *
        generalize numE 10 dg.data.toList = ee at *
        by_cases q1 : ee = 0
        · have t1 : ((ee : Int) != 0) = false := by rw [bne_eq_false_iff_eq]; omega
          by_cases q2 : 5 < dg.size
          · have q2i : (5 : Int) < (dg.size : Int) := by omega
            clear p2 q1
            go_enter Tryz.func34, Tryz.ntmps34
            go_wp2_with fail
            refine (H1.out _).mono ?_
            rintro e w' ⟨rfl, rfl⟩
            go_wp2_with fail
            refine (H2.out _).mono ?_
            rintro e w' ⟨rfl, rfl⟩
            go_wp2_with fail
            refine (HN.out _).mono ?_
            rintro e w' ⟨rfl, rfl⟩
            go_wp2_with fail
            refine (HD.out _).mono ?_
            rintro e w' ⟨rfl, rfl⟩
            go_wp2
            go_ret3
            exact ⟨ret3i HR.out, Below.refl _ _⟩
          · have q2i : ¬ (5 : Int) < (dg.size : Int) := by omega
            have q3 : (65535 : Int) < (v : Int) := by
              rw [decide_eq_true q1, decide_eq_false q2] at p2
              simp at p2
              omega
            clear p2 q1
            go_enter Tryz.func34, Tryz.ntmps34
            go_wp2_with fail
            refine (H1.out _).mono ?_
            rintro e w' ⟨rfl, rfl⟩
            go_wp2_with fail
            refine (H2.out _).mono ?_
            rintro e w' ⟨rfl, rfl⟩
            go_wp2_with fail
            refine (HN.out _).mono ?_
            rintro e w' ⟨rfl, rfl⟩
            go_wp2_with fail
            refine (HD.out _).mono ?_
            rintro e w' ⟨rfl, rfl⟩
            go_wp2
            go_ret3
            exact ⟨ret3i HR.out, Below.refl _ _⟩
        · have t1 : ((ee : Int) != 0) = true := by rw [bne_iff_ne]; omega
          clear p2 q1
          go_enter Tryz.func34, Tryz.ntmps34
          go_wp2_with fail
          refine (H1.out _).mono ?_
          rintro e w' ⟨rfl, rfl⟩
          go_wp2_with fail
          refine (H2.out _).mono ?_
          rintro e w' ⟨rfl, rfl⟩
          go_wp2_with fail
          refine (HN.out _).mono ?_
          rintro e w' ⟨rfl, rfl⟩
          go_wp2_with fail
          refine (HD.out _).mono ?_
          rintro e w' ⟨rfl, rfl⟩
          go_wp2
          go_ret3
          exact ⟨ret3i HR.out, Below.refl _ _⟩
      · have HR := hide (hyes rfl p3)
        rw [p4] at HR
        rw [decide_eq_false p1] at hie
        unfold portBad at p2
        clear hno hbad hyes p1 p3 p4
        rw [size_len] at p2
        generalize numV 10 dg.data.toList = v at *
        generalize numE 10 dg.data.toList = ee at *
        simp only [Bool.or_eq_false_iff, Bool.not_eq_false', decide_eq_true_eq, decide_eq_false_iff_not] at p2
        obtain ⟨q1, q3, q2⟩ := p2
        have t1 : ((ee : Int) != 0) = false := by rw [bne_eq_false_iff_eq]; omega
        have q2i : ¬ (5 : Int) < (dg.size : Int) := by omega
        have q3i : ¬ (65535 : Int) < (v : Int) := by omega
        clear q1
        go_enter Tryz.func34, Tryz.ntmps34
        go_wp2_with fail
        refine (H1.out _).mono ?_
        rintro e w' ⟨rfl, rfl⟩
        go_wp2_with fail
        refine (H2.out _).mono ?_
        rintro e w' ⟨rfl, rfl⟩
        go_wp2_with fail
        refine (HN.out _).mono ?_
        rintro e w' ⟨rfl, rfl⟩
        go_wp2_with fail
        refine (HD.out _).mono ?_
        rintro e w' ⟨rfl, rfl⟩
        go_wp2_with fail
        refine (HL.out _).mono ?_
        rintro e w9 ⟨rfl, b9⟩
        go_wp2
        go_ret3
        exact ⟨ret3i HR.out, b9⟩
  · have e12 := rname_none hlt
    have HN := hide (fun w => rnamed_any s w hs)
    have HL := hide (fun w => rlower_any s w hs)
    have hno := rhost_no (s := s)
    have hyes := rhost_yes (s := s)
    have lN : rnameOf s.data.toList = s.data.toList := by unfold rnameOf; rw [if_neg hlt]
    have lD : rdigsOf s.data.toList = [] := by unfold rdigsOf; rw [if_neg hlt]
    rw [e12.1] at hyes
    rw [lN] at hno hyes
    rw [lD] at hyes
    clear e12 lN lD
    generalize rhostS s = r1 at hno hyes ⊢
    generalize rhostP s.data.toList = r2 at hno hyes ⊢
    generalize ((rhostE s.data.toList : Nat) : Int) = r3 at hno hyes ⊢
    generalize lastI s.data.toList 93 = c93 at *
    generalize lastI s.data.toList 58 = c58 at *
    generalize hostB s.data.toList = hb at *
    generalize lowS s = low at *
    cases hb with
    | false =>
      have HR := hide (hno rfl)
      clear hno hyes HL
      go_enter Tryz.func34, Tryz.ntmps34
      go_wp2_with fail
      refine (H1.out _).mono ?_
      rintro e w' ⟨rfl, rfl⟩
      go_wp2_with fail
      refine (H2.out _).mono ?_
      rintro e w' ⟨rfl, rfl⟩
      go_wp2_with fail
      refine (HN.out _).mono ?_
      rintro e w' ⟨rfl, rfl⟩
      go_wp2
      go_ret3
      exact ⟨ret3i HR.out, Below.refl _ _⟩
    | true =>
      have HR := hide (hyes rfl rfl)
      clear hno hyes
      go_enter Tryz.func34, Tryz.ntmps34
      go_wp2_with fail
      refine (H1.out _).mono ?_
      rintro e w' ⟨rfl, rfl⟩
      go_wp2_with fail
      refine (H2.out _).mono ?_
      rintro e w' ⟨rfl, rfl⟩
      go_wp2_with fail
      refine (HN.out _).mono ?_
      rintro e w' ⟨rfl, rfl⟩
      go_wp2_with fail
      refine (HL.out _).mono ?_
      rintro e w9 ⟨rfl, b9⟩
      go_wp2
      go_ret3
      exact ⟨ret3i HR.out, b9⟩
end Go.Proofs.YtekkhjlipijmcaaGreatDoor
