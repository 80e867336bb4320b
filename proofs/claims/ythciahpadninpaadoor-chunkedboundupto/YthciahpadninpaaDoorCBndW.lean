/- ChunkedBound, walked. -/
import Derived.Test.YthciahpadninpaaDoorCSays
import Derived.Test.YthciahpadninpaaDoorCStill
import Derived.Test.YthciahpadninpaaDoorCBndP
namespace Go.Proofs.YthciahpadninpaaDoor
open Go.ChangeShapes Go.WideShapes Go.ChangeAt Go.RowKit

theorem PK.lowD {w w' : World} {base g : Nat} {lv tv lv' tv' : Value} {d : Dz} (hD : Dec w base g lv tv d) (h : PK w w' g lv tv lv' tv') : Below base w w' :=
  ⟨h.os, h.tape, h.output, h.size, fun k hk => h.block k (by have := hD.lt; have := hD.gb; omega) (by have := hD.gb; omega) (fun e => by have := (hD.line.lt e).1; omega) (fun e => by have := (hD.trs.lt e).1; omega)⟩
theorem asked_no (m : Int) (w : World) (h : m < 0 ∨ 9007199254740992 < m) : Calls Tryd.prog 10 #[.int .i64 m] w fun e w' => e = .returned (.bool false) ∧ w = w' := by
  by_cases h1 : m < 0
  · clear h
    have t1 : ¬ (0 ≤ m) := by omega
    go_enter Tryd.func10, Tryd.ntmps10
    go_wp2
    go_ret
    exact ⟨rfl, rfl⟩
  · have h2 : 9007199254740992 < m := by omega
    have t1 : 0 ≤ m := by omega
    have t2 : ¬ (m ≤ 9007199254740992) := by omega
    clear h
    go_enter Tryd.func10, Tryd.ntmps10
    go_wp2
    go_ret
    exact ⟨rfl, rfl⟩
theorem asked_yes (m : Int) (w : World) (h1 : 0 ≤ m) (h2 : m ≤ 9007199254740992) : Calls Tryd.prog 10 #[.int .i64 m] w fun e w' => e = .returned (.bool true) ∧ w = w' := by
  go_enter Tryd.func10, Tryd.ntmps10
  go_wp2
  go_ret
  exact ⟨rfl, rfl⟩
set_option maxHeartbeats 4000000 in
theorem bound_bad (m : Int) (a : Option Addr) (n c : Nat) (w : World) (hm : MX w) (hdb : DB w) (h : m < 0 ∨ 9007199254740992 < m) :
    Calls Tryd.prog 6 #[.int .i64 m, .slice a n c] w fun e w' => e = .returned (.bool true) ∧ Below w.heap.size w w' := by
  have HM := hide hm
  have HDB := hide hdb
  have HN := hide (new_bad m w h)
  have HA := hide (asked_no m w h)
  clear hm hdb h
  go_enter Tryd.func6, Tryd.ntmps6
  go_wp2_with fail
  refine HN.out.mono ?_
  rintro e w' ⟨rfl, rfl⟩
  go_wp2_with fail
  refine HA.out.mono ?_
  rintro e w1 ⟨rfl, rfl⟩
  go_wp2_with fail
  refine (speaks_any w HM.out HDB.out).mono ?_
  rintro e w3 ⟨rfl, b3⟩
  have B3 := hide b3
  clear b3
  go_wp2
  go_ret
  exact ⟨rfl, B3.out⟩
set_option maxHeartbeats 8000000 in
set_option maxRecDepth 100000 in
theorem bound_some (m : Nat) (ad : Addr) (c : Nat) (l : List UInt8) (hc : l.length ≤ c) (w : World) (hB : Bs w w.heap.size (.slice (some ad) l.length c) l) (hl : l.length ≤ 70368744177664) (h : m ≤ 9007199254740992) (hm : MX w) (hdb : DB w) :
    Calls Tryd.prog 6 #[.int .i64 (m : Int), .slice (some ad) l.length c] w fun e w' => e = .returned (.bool true) ∧ Below w.heap.size w w' := by
  have HM := hide hm
  have HDB := hide hdb
  have hw2 : 2 ≤ w.heap.size := hm.1
  have HN := hide (new_any m w h)
  have HBS := hide hB
  clear hm hdb hB
  have HRM := hide (bytes_room l (dNew m))
  have HFL := hide (bytes_full l (dNew m))
  have HLE := hide (bytes_len l (dNew m))
  have HFE := hide (fun (x : World) (b : Below w.heap.size w x) (hD : Dec x w.heap.size w.heap.size (.slice none 0 0) (.slice none 0 0) (dNew m)) => feed_on (A := fun k => k < w.heap.size) hD (fit_dnew m h) rfl rfl (HM.out.below b) hw2 (.slice (some ad) l.length c) l (Bf.below (A := fun k => k < w.heap.size) HBS.out b) (.inr ⟨_, _, _, rfl⟩) (Nat.lt_irrefl _) (fun k e => by simp [Value.ownBlock] at e) (fun k e => by simp [Value.ownBlock] at e) (fun k e => Nat.lt_of_lt_of_le e b.size) hl)
  generalize hR : dBytes (dNew m) l = R at HRM HFL HLE HFE
  obtain ⟨en, k, out, dd⟩ := R
  clear hR HBS
  dsimp only at HRM HFL HLE HFE
  change Hid (out.length + (dd.left + dd.room) ≤ 0 + m) at HRM
  have hO : out.length ≤ m := by have := HRM.out; omega
  have hkl : k ≤ l.length := HLE.out
  have HST : Hid (overB (dForget { dd with wrong := en }) = true ∨ l.length - k = 0) := hide (by
    rcases HFL.out with h1 | h1 | h1
    · exact .inr (by omega)
    · exact .inl (by unfold overB dForget; simp [h1])
    · exact .inl (by unfold overB dForget; simp [h1]))
  have HEN : Hid (k = l.length ∨ dd.whole = true ∨ en ≠ 0) := hide (by
    rcases HFL.out with h1 | h1 | h1
    · exact .inl h1
    · exact .inr (.inr h1)
    · exact .inr (.inl h1))
  clear HRM HFL HLE
  go_enter Tryd.func6, Tryd.ntmps6
  go_wp2_with fail
  refine HN.out.mono ?_
  rintro e w1 ⟨rfl, hd1, hb1⟩
  have B1 := hide hb1
  have HF := hide (HFE.out w1 hb1 hd1)
  have HD1 := hide hd1
  clear hd1 hb1 HN HFE
  go_wp2_with fail
  refine HF.out.mono ?_
  rintro e w2 ⟨bv, lv2, tv2, rfl, hr, hd2, hk2⟩
  have B2 := hide (B1.out.trans (hk2.lowD HD1.out))
  have HD2 := hide hd2
  obtain ⟨ba, bcp, rfl⟩ : ∃ a c, bv = .slice a out.length c := by
    obtain ⟨a, c, h, _⟩ := hr.shape
    rw [bc_len] at h
    exact ⟨a, c, h⟩
  clear hr hd2 hk2 HF HD1 B1
  have hkc : k ≤ c := by omega
  by_cases hck : c = k
  · skip
    have HS := hide (feed_still HD2.out (some ad) (l.length - k) 0 (by omega) HST.out)
    change Hid (Calls _ _ _ _ fun e w' => e = .returned (.tuple #[.slice none 0 0, .int .i64 0, .bool dd.whole, .int .i64 (en : Int)]) ∧ _) at HS
    go_wp2_with fail
    refine HS.out.mono ?_
    rintro e w3 ⟨rfl, lv3, tv3, hd3, hk3⟩
    have B3 := hide (B2.out.trans (hk3.lowD HD2.out))
    clear hd3 hk3 HS HD2 B2 HST
    generalize dd.whole = bw at HEN
    generalize out.length = O at hO
    have t1 : ¬ ((m : Int) < (O : Int)) := by omega
    have t2 : ¬ ((k : Int) < 0) := by omega
    have hwO : IntKind.i64.wrap (O : Int) = (O : Int) := IntWalk.i64_in _ ⟨by omega, by omega⟩
    by_cases hke : k = l.length
    · have t3 : ¬ ((l.length : Int) < (k : Int)) := by omega
      have t4 : ((k : Int) == (l.length : Int)) = true := by rw [beq_iff_eq]; omega
      clear HEN
      go_wp2_with fail
      refine (speaks_any w3 (HM.out.below B3.out) (HDB.out.below B3.out)).mono ?_
      rintro e w4 ⟨rfl, b4⟩
      have B4 := hide (B3.out.trans (b4.mono B3.out.size))
      clear b4
      go_wp2
      go_ret
      exact ⟨rfl, B4.out⟩
    have t3 : ¬ ((l.length : Int) < (k : Int)) := by omega
    have t4 : ((k : Int) == (l.length : Int)) = false := by rw [beq_eq_false_iff_ne]; omega
    have hen := HEN.out.resolve_left hke
    clear HEN hke
    cases bw
    · have hen2 : en ≠ 0 := hen.resolve_left (by simp)
      have t5 : ((en : Int) != 0) = true := bne_iff_ne.2 (by omega)
      clear hen hen2
      go_wp2_with fail
      refine (speaks_any w3 (HM.out.below B3.out) (HDB.out.below B3.out)).mono ?_
      rintro e w4 ⟨rfl, b4⟩
      have B4 := hide (B3.out.trans (b4.mono B3.out.size))
      clear b4
      go_wp2
      go_ret
      exact ⟨rfl, B4.out⟩
    · clear hen
      go_wp2_with fail
      refine (speaks_any w3 (HM.out.below B3.out) (HDB.out.below B3.out)).mono ?_
      rintro e w4 ⟨rfl, b4⟩
      have B4 := hide (B3.out.trans (b4.mono B3.out.size))
      clear b4
      go_wp2
      go_ret
      exact ⟨rfl, B4.out⟩
  · skip
    have HS := hide (feed_still HD2.out (some (ad.add k)) (l.length - k) (c - k) (by omega) HST.out)
    change Hid (Calls _ _ _ _ fun e w' => e = .returned (.tuple #[.slice none 0 0, .int .i64 0, .bool dd.whole, .int .i64 (en : Int)]) ∧ _) at HS
    go_wp2_with fail
    refine HS.out.mono ?_
    rintro e w3 ⟨rfl, lv3, tv3, hd3, hk3⟩
    have B3 := hide (B2.out.trans (hk3.lowD HD2.out))
    clear hd3 hk3 HS HD2 B2 HST
    generalize dd.whole = bw at HEN
    generalize out.length = O at hO
    have t1 : ¬ ((m : Int) < (O : Int)) := by omega
    have t2 : ¬ ((k : Int) < 0) := by omega
    have hwO : IntKind.i64.wrap (O : Int) = (O : Int) := IntWalk.i64_in _ ⟨by omega, by omega⟩
    by_cases hke : k = l.length
    · have t3 : ¬ ((l.length : Int) < (k : Int)) := by omega
      have t4 : ((k : Int) == (l.length : Int)) = true := by rw [beq_iff_eq]; omega
      clear HEN
      go_wp2_with fail
      refine (speaks_any w3 (HM.out.below B3.out) (HDB.out.below B3.out)).mono ?_
      rintro e w4 ⟨rfl, b4⟩
      have B4 := hide (B3.out.trans (b4.mono B3.out.size))
      clear b4
      go_wp2
      go_ret
      exact ⟨rfl, B4.out⟩
    have t3 : ¬ ((l.length : Int) < (k : Int)) := by omega
    have t4 : ((k : Int) == (l.length : Int)) = false := by rw [beq_eq_false_iff_ne]; omega
    have hen := HEN.out.resolve_left hke
    clear HEN hke
    cases bw
    · have hen2 : en ≠ 0 := hen.resolve_left (by simp)
      have t5 : ((en : Int) != 0) = true := bne_iff_ne.2 (by omega)
      clear hen hen2
      go_wp2_with fail
      refine (speaks_any w3 (HM.out.below B3.out) (HDB.out.below B3.out)).mono ?_
      rintro e w4 ⟨rfl, b4⟩
      have B4 := hide (B3.out.trans (b4.mono B3.out.size))
      clear b4
      go_wp2
      go_ret
      exact ⟨rfl, B4.out⟩
    · clear hen
      go_wp2_with fail
      refine (speaks_any w3 (HM.out.below B3.out) (HDB.out.below B3.out)).mono ?_
      rintro e w4 ⟨rfl, b4⟩
      have B4 := hide (B3.out.trans (b4.mono B3.out.size))
      clear b4
      go_wp2
      go_ret
      exact ⟨rfl, B4.out⟩
set_option maxHeartbeats 4000000 in
set_option maxRecDepth 100000 in
theorem bound_none (m : Nat) (w : World) (h : m ≤ 9007199254740992) (hm : MX w) (hdb : DB w) :
    Calls Tryd.prog 6 #[.int .i64 (m : Int), .slice none 0 0] w fun e w' => e = .returned (.bool true) ∧ Below w.heap.size w w' := by
  have HM := hide hm
  have HDB := hide hdb
  have HN := hide (new_any m w h)
  clear hm hdb
  have t1 : ¬ ((m : Int) < 0) := by omega
  go_enter Tryd.func6, Tryd.ntmps6
  go_wp2_with fail
  refine HN.out.mono ?_
  rintro e w1 ⟨rfl, hd1, hb1⟩
  have B1 := hide hb1
  have HF := hide (feed_still hd1 none 0 0 (by omega) (.inr rfl))
  change Hid (Calls _ _ _ _ fun e w' => e = .returned (.tuple #[.slice none 0 0, .int .i64 0, .bool false, .int .i64 0]) ∧ _) at HF
  have HD1 := hide hd1
  clear hd1 hb1 HN
  go_wp2_with fail
  refine HF.out.mono ?_
  rintro e w2 ⟨rfl, lv2, tv2, hd2, hk2⟩
  have B2 := hide (B1.out.trans (hk2.lowD HD1.out))
  have HS := hide (feed_still hd2 none 0 0 (by omega) (.inr rfl))
  change Hid (Calls _ _ _ _ fun e w' => e = .returned (.tuple #[.slice none 0 0, .int .i64 0, .bool false, .int .i64 0]) ∧ _) at HS
  have HD2 := hide hd2
  clear hd2 hk2 HF HD1 B1
  go_wp2_with fail
  refine HS.out.mono ?_
  rintro e w3 ⟨rfl, lv3, tv3, hd3, hk3⟩
  have B3 := hide (B2.out.trans (hk3.lowD HD2.out))
  clear hd3 hk3 HS HD2 B2
  go_wp2_with fail
  refine (speaks_any w3 (HM.out.below B3.out) (HDB.out.below B3.out)).mono ?_
  rintro e w4 ⟨rfl, b4⟩
  have B4 := hide (B3.out.trans (b4.mono B3.out.size))
  clear b4
  go_wp2
  go_ret
  exact ⟨rfl, B4.out⟩
theorem bound_walk (m : Int) (a : Option Addr) (n c : Nat) (l : List UInt8) (w : World) (hB : Bs w w.heap.size (.slice a n c) l) (hS : Shp (.slice a n c)) (hl : l.length ≤ 70368744177664) (hm : MX w) (hdb : DB w) :
    Calls Tryd.prog 6 #[.int .i64 m, .slice a n c] w fun e w' => e = .returned (.bool true) ∧ Below w.heap.size w w' := by
  by_cases h : m < 0 ∨ 9007199254740992 < m
  · exact bound_bad m a n c w hm hdb h
  · obtain ⟨k, rfl⟩ : ∃ k : Nat, m = k := ⟨m.toNat, by omega⟩
    have hk : k ≤ 9007199254740992 := by omega
    have hB' := hB
    obtain ⟨a', c', he, hc, _⟩ := hB
    simp only [Value.slice.injEq] at he
    obtain ⟨rfl, rfl, rfl⟩ := he
    rcases hS with hS | ⟨ad, n', c', hS⟩
    · simp only [Value.slice.injEq] at hS
      obtain ⟨rfl, h0, rfl⟩ := hS
      rw [h0]
      exact bound_none k w hk hm hdb
    · simp only [Value.slice.injEq] at hS
      obtain ⟨rfl, rfl, rfl⟩ := hS
      exact bound_some k ad c l hc w hB' hl hk hm hdb
end Go.Proofs.YthciahpadninpaaDoor
