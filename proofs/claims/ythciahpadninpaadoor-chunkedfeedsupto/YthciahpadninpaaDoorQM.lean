/- QM: CBndW CFeedsQ CFeedsW. -/
import Derived.Test.YthciahpadninpaaDoorQE
import Derived.Test.YthciahpadninpaaDoorQF
import Derived.Test.YthciahpadninpaaDoorQK
import Derived.Test.YthciahpadninpaaDoorQL
import Derived.Test.YthciahpadninpaaDoorQJ
import Derived.Test.YthciahpadninpaaDoorQH
/- ChunkedBound, walked. -/
namespace Go.Proofs.YthciahpadninpaaDoor
open Go.ChangeShapes Go.WideShapes Go.ChangeAt Go.RowKit

theorem PK.lowD {w w' : World} {base g : Nat} {lv tv lv' tv' : Value} {d : Dz} (hD : Dec w base g lv tv d) (h : PK w w' g lv tv lv' tv') : Below base w w' :=
  ⟨h.os, h.tape, h.output, h.size, fun k hk => h.block k (by have := hD.lt; have := hD.gb; omega) (by have := hD.gb; omega) (fun e => by have := (hD.line.lt e).1; omega) (fun e => by have := (hD.trs.lt e).1; omega)⟩
theorem asked_no (m : Int) (w : World) (h : m < 0 ∨ 9007199254740992 < m) : Calls Tryd.prog 10 #[.int .i64 m] w fun e w' => e = .returned (.bool false) ∧ w = w' := by
  by_cases h1 : m < 0
  · clear h
    have t1 : ¬ (0 ≤ m) := by omega
    go_enter Tryd.func10, Tryd.ntmps10
    go_wp2
    go_ret
    exact ⟨rfl, rfl⟩
  · have h2 : 9007199254740992 < m := by omega
    have t1 : 0 ≤ m := by omega
    have t2 : ¬ (m ≤ 9007199254740992) := by omega
    clear h
    go_enter Tryd.func10, Tryd.ntmps10
    go_wp2
    go_ret
    exact ⟨rfl, rfl⟩
theorem asked_yes (m : Int) (w : World) (h1 : 0 ≤ m) (h2 : m ≤ 9007199254740992) : Calls Tryd.prog 10 #[.int .i64 m] w fun e w' => e = .returned (.bool true) ∧ w = w' := by
  go_enter Tryd.func10, Tryd.ntmps10
  go_wp2
  go_ret
  exact ⟨rfl, rfl⟩
set_option maxHeartbeats 4000000 in
theorem bound_bad (m : Int) (a : Option Addr) (n c : Nat) (w : World) (hm : MX w) (hdb : DB w) (h : m < 0 ∨ 9007199254740992 < m) :
    Calls Tryd.prog 6 #[.int .i64 m, .slice a n c] w fun e w' => e = .returned (.bool true) ∧ Below w.heap.size w w' := by
  have HM := hide hm
  have HDB := hide hdb
  have HN := hide (new_bad m w h)
  have HA := hide (asked_no m w h)
  clear hm hdb h
  go_enter Tryd.func6, Tryd.ntmps6
  go_wp2_with fail
  refine HN.out.mono ?_
  rintro e w' ⟨rfl, rfl⟩
  go_wp2_with fail
  refine HA.out.mono ?_
  rintro e w1 ⟨rfl, rfl⟩
  go_wp2_with fail
  refine (speaks_any w HM.out HDB.out).mono ?_
  rintro e w3 ⟨rfl, b3⟩
  have B3 := hide b3
  clear b3
  go_wp2
  go_ret
  exact ⟨rfl, B3.out⟩
set_option maxHeartbeats 8000000 in
set_option maxRecDepth 100000 in
theorem bound_some (m : Nat) (ad : Addr) (c : Nat) (l : List UInt8) (hc : l.length ≤ c) (w : World) (hB : Bs w w.heap.size (.slice (some ad) l.length c) l) (hl : l.length ≤ 70368744177664) (h : m ≤ 9007199254740992) (hm : MX w) (hdb : DB w) :
    Calls Tryd.prog 6 #[.int .i64 (m : Int), .slice (some ad) l.length c] w fun e w' => e = .returned (.bool true) ∧ Below w.heap.size w w' := by
  have HM := hide hm
  have HDB := hide hdb
  have hw2 : 2 ≤ w.heap.size := hm.1
  have HN := hide (new_any m w h)
  have HBS := hide hB
  clear hm hdb hB
  have HRM := hide (bytes_room l (dNew m))
  have HFL := hide (bytes_full l (dNew m))
  have HLE := hide (bytes_len l (dNew m))
  have HFE := hide (fun (x : World) (b : Below w.heap.size w x) (hD : Dec x w.heap.size w.heap.size (.slice none 0 0) (.slice none 0 0) (dNew m)) => feed_on (A := fun k => k < w.heap.size) hD (fit_dnew m h) rfl rfl (HM.out.below b) hw2 (.slice (some ad) l.length c) l (Bf.below (A := fun k => k < w.heap.size) HBS.out b) (.inr ⟨_, _, _, rfl⟩) (Nat.lt_irrefl _) (fun k e => by simp [Value.ownBlock] at e) (fun k e => by simp [Value.ownBlock] at e) (fun k e => Nat.lt_of_lt_of_le e b.size) hl)
  generalize hR : dBytes (dNew m) l = R at HRM HFL HLE HFE
  obtain ⟨en, k, out, dd⟩ := R
  clear hR HBS
  dsimp only at HRM HFL HLE HFE
  change Hid (out.length + (dd.left + dd.room) ≤ 0 + m) at HRM
  have hO : out.length ≤ m := by have := HRM.out; omega
  have hkl : k ≤ l.length := HLE.out
  have HST : Hid (overB (dForget { dd with wrong := en }) = true ∨ l.length - k = 0) := hide (by
    rcases HFL.out with h1 | h1 | h1
    · exact .inr (by omega)
    · exact .inl (by unfold overB dForget; simp [h1])
    · exact .inl (by unfold overB dForget; simp [h1]))
  have HEN : Hid (k = l.length ∨ dd.whole = true ∨ en ≠ 0) := hide (by
    rcases HFL.out with h1 | h1 | h1
    · exact .inl h1
    · exact .inr (.inr h1)
    · exact .inr (.inl h1))
  clear HRM HFL HLE
  go_enter Tryd.func6, Tryd.ntmps6
  go_wp2_with fail
  refine HN.out.mono ?_
  rintro e w1 ⟨rfl, hd1, hb1⟩
  have B1 := hide hb1
  have HF := hide (HFE.out w1 hb1 hd1)
  have HD1 := hide hd1
  clear hd1 hb1 HN HFE
  go_wp2_with fail
  refine HF.out.mono ?_
  rintro e w2 ⟨bv, lv2, tv2, rfl, hr, hd2, hk2⟩
  have B2 := hide (B1.out.trans (hk2.lowD HD1.out))
  have HD2 := hide hd2
  obtain ⟨ba, bcp, rfl⟩ : ∃ a c, bv = .slice a out.length c := by
    obtain ⟨a, c, h, _⟩ := hr.shape
    rw [bc_len] at h
    exact ⟨a, c, h⟩
  clear hr hd2 hk2 HF HD1 B1
  have hkc : k ≤ c := by omega
  by_cases hck : c = k
  · skip
    have HS := hide (feed_still HD2.out (some ad) (l.length - k) 0 (by omega) HST.out)
    change Hid (Calls _ _ _ _ fun e w' => e = .returned (.tuple #[.slice none 0 0, .int .i64 0, .bool dd.whole, .int .i64 (en : Int)]) ∧ _) at HS
    go_wp2_with fail
    refine HS.out.mono ?_
    rintro e w3 ⟨rfl, lv3, tv3, hd3, hk3⟩
    have B3 := hide (B2.out.trans (hk3.lowD HD2.out))
    clear hd3 hk3 HS HD2 B2 HST
    generalize dd.whole = bw at HEN
    generalize out.length = O at hO
    have t1 : ¬ ((m : Int) < (O : Int)) := by omega
    have t2 : ¬ ((k : Int) < 0) := by omega
    have hwO : IntKind.i64.wrap (O : Int) = (O : Int) := IntWalk.i64_in _ ⟨by omega, by omega⟩
    by_cases hke : k = l.length
    · have t3 : ¬ ((l.length : Int) < (k : Int)) := by omega
      have t4 : ((k : Int) == (l.length : Int)) = true := by rw [beq_iff_eq]; omega
      clear HEN
      go_wp2_with fail
      refine (speaks_any w3 (HM.out.below B3.out) (HDB.out.below B3.out)).mono ?_
      rintro e w4 ⟨rfl, b4⟩
      have B4 := hide (B3.out.trans (b4.mono B3.out.size))
      clear b4
      go_wp2
      go_ret
      exact ⟨rfl, B4.out⟩
    have t3 : ¬ ((l.length : Int) < (k : Int)) := by omega
    have t4 : ((k : Int) == (l.length : Int)) = false := by rw [beq_eq_false_iff_ne]; omega
    have hen := HEN.out.resolve_left hke
    clear HEN hke
    cases bw
    · have hen2 : en ≠ 0 := hen.resolve_left (by simp)
      have t5 : ((en : Int) != 0) = true := bne_iff_ne.2 (by omega)
      clear hen hen2
      go_wp2_with fail
      refine (speaks_any w3 (HM.out.below B3.out) (HDB.out.below B3.out)).mono ?_
      rintro e w4 ⟨rfl, b4⟩
      have B4 := hide (B3.out.trans (b4.mono B3.out.size))
      clear b4
      go_wp2
      go_ret
      exact ⟨rfl, B4.out⟩
    · clear hen
      go_wp2_with fail
      refine (speaks_any w3 (HM.out.below B3.out) (HDB.out.below B3.out)).mono ?_
      rintro e w4 ⟨rfl, b4⟩
      have B4 := hide (B3.out.trans (b4.mono B3.out.size))
      clear b4
      go_wp2
      go_ret
      exact ⟨rfl, B4.out⟩
  · skip
    have HS := hide (feed_still HD2.out (some (ad.add k)) (l.length - k) (c - k) (by omega) HST.out)
    change Hid (Calls _ _ _ _ fun e w' => e = .returned (.tuple #[.slice none 0 0, .int .i64 0, .bool dd.whole, .int .i64 (en : Int)]) ∧ _) at HS
    go_wp2_with fail
    refine HS.out.mono ?_
    rintro e w3 ⟨rfl, lv3, tv3, hd3, hk3⟩
    have B3 := hide (B2.out.trans (hk3.lowD HD2.out))
    clear hd3 hk3 HS HD2 B2 HST
    generalize dd.whole = bw at HEN
    generalize out.length = O at hO
    have t1 : ¬ ((m : Int) < (O : Int)) := by omega
    have t2 : ¬ ((k : Int) < 0) := by omega
    have hwO : IntKind.i64.wrap (O : Int) = (O : Int) := IntWalk.i64_in _ ⟨by omega, by omega⟩
    by_cases hke : k = l.length
    · have t3 : ¬ ((l.length : Int) < (k : Int)) := by omega
      have t4 : ((k : Int) == (l.length : Int)) = true := by rw [beq_iff_eq]; omega
      clear HEN
      go_wp2_with fail
      refine (speaks_any w3 (HM.out.below B3.out) (HDB.out.below B3.out)).mono ?_
      rintro e w4 ⟨rfl, b4⟩
      have B4 := hide (B3.out.trans (b4.mono B3.out.size))
      clear b4
      go_wp2
      go_ret
      exact ⟨rfl, B4.out⟩
    have t3 : ¬ ((l.length : Int) < (k : Int)) := by omega
    have t4 : ((k : Int) == (l.length : Int)) = false := by rw [beq_eq_false_iff_ne]; omega
    have hen := HEN.out.resolve_left hke
    clear HEN hke
    cases bw
    · have hen2 : en ≠ 0 := hen.resolve_left (by simp)
      have t5 : ((en : Int) != 0) = true := bne_iff_ne.2 (by omega)
      clear hen hen2
      go_wp2_with fail
      refine (speaks_any w3 (HM.out.below B3.out) (HDB.out.below B3.out)).mono ?_
      rintro e w4 ⟨rfl, b4⟩
      have B4 := hide (B3.out.trans (b4.mono B3.out.size))
      clear b4
      go_wp2
      go_ret
      exact ⟨rfl, B4.out⟩
    · clear hen
      go_wp2_with fail
      refine (speaks_any w3 (HM.out.below B3.out) (HDB.out.below B3.out)).mono ?_
      rintro e w4 ⟨rfl, b4⟩
      have B4 := hide (B3.out.trans (b4.mono B3.out.size))
      clear b4
      go_wp2
      go_ret
      exact ⟨rfl, B4.out⟩
set_option maxHeartbeats 4000000 in
set_option maxRecDepth 100000 in
theorem bound_none (m : Nat) (w : World) (h : m ≤ 9007199254740992) (hm : MX w) (hdb : DB w) :
    Calls Tryd.prog 6 #[.int .i64 (m : Int), .slice none 0 0] w fun e w' => e = .returned (.bool true) ∧ Below w.heap.size w w' := by
  have HM := hide hm
  have HDB := hide hdb
  have HN := hide (new_any m w h)
  clear hm hdb
  have t1 : ¬ ((m : Int) < 0) := by omega
  go_enter Tryd.func6, Tryd.ntmps6
  go_wp2_with fail
  refine HN.out.mono ?_
  rintro e w1 ⟨rfl, hd1, hb1⟩
  have B1 := hide hb1
  have HF := hide (feed_still hd1 none 0 0 (by omega) (.inr rfl))
  change Hid (Calls _ _ _ _ fun e w' => e = .returned (.tuple #[.slice none 0 0, .int .i64 0, .bool false, .int .i64 0]) ∧ _) at HF
  have HD1 := hide hd1
  clear hd1 hb1 HN
  go_wp2_with fail
  refine HF.out.mono ?_
  rintro e w2 ⟨rfl, lv2, tv2, hd2, hk2⟩
  have B2 := hide (B1.out.trans (hk2.lowD HD1.out))
  have HS := hide (feed_still hd2 none 0 0 (by omega) (.inr rfl))
  change Hid (Calls _ _ _ _ fun e w' => e = .returned (.tuple #[.slice none 0 0, .int .i64 0, .bool false, .int .i64 0]) ∧ _) at HS
  have HD2 := hide hd2
  clear hd2 hk2 HF HD1 B1
  go_wp2_with fail
  refine HS.out.mono ?_
  rintro e w3 ⟨rfl, lv3, tv3, hd3, hk3⟩
  have B3 := hide (B2.out.trans (hk3.lowD HD2.out))
  clear hd3 hk3 HS HD2 B2
  go_wp2_with fail
  refine (speaks_any w3 (HM.out.below B3.out) (HDB.out.below B3.out)).mono ?_
  rintro e w4 ⟨rfl, b4⟩
  have B4 := hide (B3.out.trans (b4.mono B3.out.size))
  clear b4
  go_wp2
  go_ret
  exact ⟨rfl, B4.out⟩
theorem bound_walk (m : Int) (a : Option Addr) (n c : Nat) (l : List UInt8) (w : World) (hB : Bs w w.heap.size (.slice a n c) l) (hS : Shp (.slice a n c)) (hl : l.length ≤ 70368744177664) (hm : MX w) (hdb : DB w) :
    Calls Tryd.prog 6 #[.int .i64 m, .slice a n c] w fun e w' => e = .returned (.bool true) ∧ Below w.heap.size w w' := by
  by_cases h : m < 0 ∨ 9007199254740992 < m
  · exact bound_bad m a n c w hm hdb h
  · obtain ⟨k, rfl⟩ : ∃ k : Nat, m = k := ⟨m.toNat, by omega⟩
    have hk : k ≤ 9007199254740992 := by omega
    have hB' := hB
    obtain ⟨a', c', he, hc, _⟩ := hB
    simp only [Value.slice.injEq] at he
    obtain ⟨rfl, rfl, rfl⟩ := he
    rcases hS with hS | ⟨ad, n', c', hS⟩
    · simp only [Value.slice.injEq] at hS
      obtain ⟨rfl, h0, rfl⟩ := hS
      rw [h0]
      exact bound_none k w hk hm hdb
    · simp only [Value.slice.injEq] at hS
      obtain ⟨rfl, rfl, rfl⟩ := hS
      exact bound_some k ad c l hc w hB' hl hk hm hdb
end Go.Proofs.YthciahpadninpaaDoor
/- ChunkedFeeds: what its walk takes. -/
namespace Go.Proofs.YthciahpadninpaaDoor
open Go.ChangeShapes Go.WideShapes Go.ChangeAt Go.RowKit

/-- Feed, by how the decoder stands. -/
theorem feed_st {w : World} {base g most : Nat} {lv tv : Value} {a : List UInt8} (hD : Dec w base g lv tv (stD most a)) (hmost : most ≤ 9007199254740992) (hm : MX w) (hb : 2 ≤ base) {A : Nat → Prop} (va : Option Addr) (vc : Nat) (l : List UInt8) (hv : Bf w A (.slice va l.length vc) l) (hs : Shp (.slice va l.length vc)) (gA : ¬ A g) (lA : ∀ k, lv.ownBlock = some k → ¬ A k) (tA : ∀ k, tv.ownBlock = some k → ¬ A k) (AL : ∀ k, A k → k < w.heap.size) (hl : l.length ≤ 70368744177664) :
    Calls Tryd.prog 13 #[.pointer (some ⟨g, 0, none⟩), .slice va l.length vc] w fun e w' => ∃ bv lv' tv' ob n, e = .returned (.tuple #[bv, .int .i64 (n : Nat), .bool (dBytes (dNew most) (a ++ l)).2.2.2.whole, .int .i64 ((dBytes (dNew most) (a ++ l)).1 : Int)]) ∧ (dBytes (dNew most) (a ++ l)).2.2.1 = (dBytes (dNew most) a).2.2.1 ++ ob ∧ (dBytes (dNew most) (a ++ l)).2.1 = (dBytes (dNew most) a).2.1 + n ∧ Row w' w.heap.size 5 bv (bc ob) ∧ Dec w' base g lv' tv' (stD most (a ++ l)) ∧ PK w w' g lv tv lv' tv' := by
  cases ho : overB (stD most a) with
  | true =>
    have ha : a ≠ [] := fun e => st_over (most := most) (by rw [← e]; exact ho)
    have hq := step_over (b := l) ho ha
    refine (feed_still hD va l.length vc (by omega) (.inl ho)).mono ?_
    rintro e w' ⟨rfl, lv', tv', h1, h2⟩
    refine ⟨_, lv', tv', [], 0, ?_, by rw [hq, List.append_nil], by rw [hq]; rfl, Row.nil _ _ _, ?_, h2⟩
    · rw [hq]; rfl
    · have e : stD most (a ++ l) = dForget (stD most a) := by
        unfold stD
        rw [hq, forget_forget]
      rw [e]
      exact h1
  | false =>
    obtain ⟨q1, q2, q3⟩ := over_parts ho
    have hq := step_on (b := l) ho
    have hw : (stD most a).whole = false := by rw [q3]; exact q2
    have hwr : (stD most a).wrong = 0 := by rw [q3]; exact bytes_wrong a _
    refine (feed_on hD (st_fit hmost a) hw hwr hm hb _ l hv hs gA lA tA AL hl).mono ?_
    rintro e w' ⟨bv, lv', tv', rfl, h1, h2, h3⟩
    refine ⟨bv, lv', tv', (dBytes (stD most a) l).2.2.1, (dBytes (stD most a) l).2.1, ?_, by rw [hq]; rfl, by rw [hq]; exact Nat.add_comm _ _, h1, ?_, h3⟩
    · rw [hq]; rfl
    · have e : stD most (a ++ l) = dForget { (dBytes (stD most a) l).2.2.2 with wrong := (dBytes (stD most a) l).1 } := by
        conv => lhs; unfold stD
        rw [hq]
        rfl
      rw [e]
      exact h2
theorem trailers_part {w : World} {base g : Nat} {lv tv : Value} {d : Dz} (h : Dec w base g lv tv d) (hw : d.whole = false) :
    Calls Tryd.prog 15 #[.pointer (some ⟨g, 0, none⟩)] w fun e w' => e = .returned (.slice none 0 0) ∧ w = w' := by
  have c6 : w.cell? ⟨g, 6, none⟩ = some (.bool false) := by have := h.cell 6; rw [show (dcells d g lv tv)[6]? = some (.bool d.whole) from rfl, hw] at this; exact this
  clear h hw
  go_enter Tryd.func15, Tryd.ntmps15
  go_wp2
  go_ret
  exact ⟨rfl, rfl⟩
theorem rdT_len {most : Nat} (h : most ≤ 9007199254740992) (l : List UInt8) : (rdT most l).length ≤ 100 := by
  unfold rdT
  split
  · exact (fit_dbytes l (dNew most) (fit_dnew most h)).tr
  · exact Nat.zero_le _
theorem trailers_st {w : World} {base g most : Nat} {lv tv : Value} {l : List UInt8} (h : Dec w base g lv tv (stD most l)) (hm : most ≤ 9007199254740992) :
    Calls Tryd.prog 15 #[.pointer (some ⟨g, 0, none⟩)] w fun e w' => ∃ v, e = .returned v ∧ FRow w' w.heap.size v (rdT most l) ∧ Below w.heap.size w w' := by
  unfold rdT
  by_cases hw : (dBytes (dNew most) l).2.2.2.whole = true
  · rw [if_pos hw]
    have hE : (dBytes (dNew most) l).1 = 0 := by
      rcases Nat.eq_zero_or_pos (dBytes (dNew most) l).1 with h1 | h1
      · exact h1
      · have := whole_bytes l (dNew most) rfl (by omega)
        rw [hw] at this
        cases this
    have e : (stD most l).tr = (dBytes (dNew most) l).2.2.2.tr := by
      unfold stD dForget
      dsimp only
      rw [if_pos hE]
    rw [← e]
    exact trailers_whole h hw (by rw [e]; exact (fit_dbytes l (dNew most) (fit_dnew most hm)).tr) (st_trs hm l)
  · rw [if_neg hw]
    refine (trailers_part h (show (dBytes (dNew most) l).2.2.2.whole = false by simpa using hw)).mono ?_
    rintro e w' ⟨rfl, rfl⟩
    exact ⟨_, rfl, FRow.nil _ _, Below.refl _ _⟩
/-- A decoder, a row and a block beside each other. -/
structure FS (w wr : World) (bw : Nat) (lv tv av : Value) (d : Dz) (all : List UInt8) (C : Array Value) : Prop where
  dec : Dec wr w.heap.size w.heap.size lv tv d
  row : Row wr w.heap.size 5 av (bc all)
  was : wr.heap[bw]? = some (.cells C 32 (0, 0))
  ag : av.ownBlock ≠ some w.heap.size
  al : ∀ k, av.ownBlock = some k → lv.ownBlock ≠ some k ∧ tv.ownBlock ≠ some k
  aw : av.ownBlock ≠ some bw
  lw : lv.ownBlock ≠ some bw
  tw : tv.ownBlock ≠ some bw
  gw : w.heap.size < bw
  b : Below w.heap.size w wr
theorem FS.below {w wr W : World} {bw : Nat} {lv tv av : Value} {d : Dz} {all : List UInt8} {C : Array Value} (h : FS w wr bw lv tv av d all C) (b : Below wr.heap.size wr W) : FS w W bw lv tv av d all C :=
  ⟨h.dec.below b, h.row.below b, (b.block bw (lt_heap h.was)).trans h.was, h.ag, h.al, h.aw, h.lw, h.tw, h.gw, h.b.trans (b.mono h.b.size)⟩
theorem FS.grow {w wr W : World} {bw : Nat} {lv tv av av' : Value} {d : Dz} {all all' : List UInt8} {C : Array Value} (h : FS w wr bw lv tv av d all C) (hk : Kept wr W av av') (hR : Row W w.heap.size 5 av' (bc all')) (hB : Below w.heap.size wr W) : FS w W bw lv tv av' d all' C := by
  have hg := h.dec.lt
  have hb := lt_heap h.was
  refine ⟨h.dec.frame fun k e => hk.block k ?_ ?_, hR, (hk.block bw hb h.aw).trans h.was, hk.apart _ hg h.ag, fun k e => ⟨fun e2 => ?_, fun e2 => ?_⟩, hk.apart _ hb h.aw, h.lw, h.tw, h.gw, h.b.trans hB⟩
  · rcases e with rfl | e | e
    · exact hg
    · exact (h.dec.line.lt e).2
    · exact (h.dec.trs.lt e).2
  · rcases e with rfl | e | e
    · exact h.ag
    · exact fun e2 => (h.al k e2).1 e
    · exact fun e2 => (h.al k e2).2 e
  · exact hk.apart k (h.dec.line.lt e2).2 (fun e3 => (h.al k e3).1 e2) e
  · exact hk.apart k (h.dec.trs.lt e2).2 (fun e3 => (h.al k e3).2 e2) e
theorem FS.feed {w wr W : World} {bw : Nat} {lv tv lv' tv' av : Value} {d d' : Dz} {all : List UInt8} {C : Array Value} (h : FS w wr bw lv tv av d all C) (hd : Dec W w.heap.size w.heap.size lv' tv' d') (hk : PK wr W w.heap.size lv tv lv' tv') : FS w W bw lv' tv' av d' all C := by
  have hg := h.dec.lt
  have hb := lt_heap h.was
  have hgw := h.gw
  refine ⟨hd, h.row.frame fun k e => hk.block k (h.row.lt e).2 (fun e2 => h.ag (by rw [e, e2])) (h.al k e).1 (h.al k e).2, (hk.block bw hb (by omega) h.lw h.tw).trans h.was, h.ag, fun k e => ⟨hk.la k (h.row.lt e).2 (h.al k e).1, hk.fa k (h.row.lt e).2 (h.al k e).2⟩, h.aw, hk.la bw hb h.lw, hk.fa bw hb h.tw, h.gw, h.b.trans ⟨hk.os, hk.tape, hk.output, hk.size, fun k hk2 => hk.block k (by omega) (by omega) (fun e => ?_) (fun e => ?_)⟩⟩
  · have := (h.dec.line.lt e).1; omega
  · have := (h.dec.trs.lt e).1; omega
theorem FS.set {w wr : World} {bw : Nat} {lv tv av : Value} {d : Dz} {all : List UInt8} {C : Array Value} (h : FS w wr bw lv tv av d all C) (i : Nat) (v : Value) : FS w (wr.setCell ⟨bw, i, none⟩ v) bw lv tv av d all (C.setIfInBounds i v) := by
  have hgw := h.gw
  refine ⟨h.dec.frame fun k e => Below.heap_setCell wr ⟨bw, i, none⟩ v k (fun e2 => ?_), h.row.frame fun k e => Below.heap_setCell wr ⟨bw, i, none⟩ v k (fun e2 => h.aw (by rw [e, e2])), hp_set h.was i v, h.ag, h.al, h.aw, h.lw, h.tw, h.gw, h.b.setCell (p := ⟨bw, i, none⟩) (Nat.le_of_lt hgw) v⟩
  have e3 : k = bw := e2
  rcases e with e | e | e
  · omega
  · exact h.lw (by rw [e, e3])
  · exact h.tw (by rw [e, e3])
theorem FS.cell {w wr : World} {bw : Nat} {lv tv av : Value} {d : Dz} {all : List UInt8} {C : Array Value} (h : FS w wr bw lv tv av d all C) (i : Nat) : wr.cell? ⟨bw, i, none⟩ = C[i]? := cell_at h.was i
theorem FS.froz {w wr : World} {bw : Nat} {lv tv av : Value} {d : Dz} {all : List UInt8} {C : Array Value} (h : FS w wr bw lv tv av d all C) (i : Nat) : wr.frozen? ⟨bw, i, none⟩ = false := by rw [frozen_at h.was]; simp
end Go.Proofs.YthciahpadninpaaDoor
/- ChunkedFeeds, walked. -/
namespace Go.Proofs.YthciahpadninpaaDoor
open Go.ChangeShapes Go.WideShapes Go.ChangeAt Go.RowKit

theorem bytes_len2 (l : List UInt8) (d : Dz) : (dBytes d l).2.2.1.length ≤ l.length := Nat.le_trans (bytes_out l d) (bytes_len l d)
theorem Bs.to_bf {w : World} {base : Nat} {v : Value} {l : List UInt8} (h : Bs w base v l) : Bf w (fun k => k < base) v l := by
  obtain ⟨a, c, rfl, hc, hx⟩ := h
  exact ⟨a, c, rfl, hc, hx⟩
set_option maxHeartbeats 32000000 in
set_option maxRecDepth 100000 in
theorem feeds_walk (most : Int) (v : Value) (L : List (List UInt8)) (w : World) (hP : Pcs w v L) (hfl : L.flatten.length ≤ 1048576) (hn : L.length ≤ 1048576) (hm : MX w) (hdb : DB w) :
    Calls Tryd.prog 3 #[.int .i64 most, v] w fun e w' => e = .returned (.bool true) ∧ Below w.heap.size w w' := by
  have HM := hide hm
  have HDB := hide hdb
  have hw2 : 2 ≤ w.heap.size := hm.1
  obtain ⟨pa, pc, rfl, hpc, hcells⟩ := hP
  have HPC := hide hcells
  clear hm hdb hcells
  by_cases hask : 0 ≤ most ∧ most ≤ 9007199254740992
  · obtain ⟨m, rfl⟩ := Int.eq_ofNat_of_zero_le hask.1
    have hmm : m ≤ 9007199254740992 := by omega
    have HAS := hide (fun W => asked_yes (m : Int) W hask.1 hask.2)
    clear hask
    go_enter Tryd.func3, Tryd.ntmps3
    go_wp2_with fail
    refine (new_any m w hmm).mono ?_
    rintro e w1 ⟨rfl, D1, b1⟩
    have HD1 := hide D1
    have B1 := hide b1
    have hg1 := D1.lt
    clear D1 b1
    go_wp2_with fail
    refine (HAS.out w1).mono ?_
    rintro e w2 ⟨rfl, rfl⟩
    clear HAS
    go_wp2_with fail
    have BA := hide ((Below.refl w1.heap.size w1).alloc (Nat.le_refl _) (.cells #[.slice none 0 0, .slice none 0 0, .int .i64 0, .bool false, .int .i64 0] 32))
    have HBW := hide (hp_new w1 (.cells #[.slice none 0 0, .slice none 0 0, .int .i64 0, .bool false, .int .i64 0] 32))
    have F0 : Hid (FS w (w1.alloc (.cells #[.slice none 0 0, .slice none 0 0, .int .i64 0, .bool false, .int .i64 0] 32)) w1.heap.size (.slice none 0 0) (.slice none 0 0) (.slice none 0 0) (stD m []) [] #[.slice none 0 0, .slice none 0 0, .int .i64 0, .bool false, .int .i64 0]) := hide ⟨HD1.out.below BA.out, Row.nil _ _ _, HBW.out, by simp [Value.ownBlock], by intro k e; simp [Value.ownBlock] at e, by simp [Value.ownBlock], by simp [Value.ownBlock], by simp [Value.ownBlock], hg1, B1.out.trans (BA.out.mono B1.out.size)⟩
    clear BA HBW HD1 B1
    generalize (w1.alloc (.cells #[.slice none 0 0, .slice none 0 0, .int .i64 0, .bool false, .int .i64 0] 32)) = x at F0 ⊢
    generalize w1.heap.size = bw at F0 hg1 ⊢
    go_loopw [7, 42] (fun av i wr => ∃ (k : Nat) (all : List UInt8) (aa : Option Addr) (an ac : Nat) (lv tv : Value) (oa : Option Addr) (oc : Nat) (ta : Option Addr) (tn tc : Nat) (bh : Bool) (ee : Int), k ≤ L.length ∧ av = .slice aa an ac ∧ i = .int .i64 k ∧ Hid (all = (L.take k).flatten) ∧ Hid (FS w wr bw lv tv (.slice aa an ac) (stD m all) all #[.slice oa (dBytes (dNew m) all).2.2.1.length oc, .slice ta tn tc, .int .i64 ((dBytes (dNew m) all).2.1 : Int), .bool bh, .int .i64 ee])) (fun _ i _ => L.length - (intOf i).toNat)
    case atStart => exact ⟨0, [], none, 0, 0, _, _, none, 0, none, 0, 0, false, 0, Nat.zero_le _, rfl, rfl, hide rfl, F0⟩
    case round =>
      clear F0
      obtain ⟨k, all, aa, an, ac, lv, tv, oa, oc, ta, tn, tc, bh, ee, hk, rfl, rfl, HAL, F1⟩ := hrel
      by_cases hlt : k < L.length
      · obtain ⟨g1, o1, ba, bcp, rfl, hgb, q1, hbs, hsh⟩ := HPC.out k hlt
        have hfk := flat_take hlt
        have hfl2 := flat_le L (k + 1)
        generalize L[k] = b at hfk q1 hbs hsh
        rw [hfk, ← HAL.out, List.length_append] at hfl2
        have HAL2 : Hid (all ++ b = (L.take (k + 1)).flatten) := hide (by rw [hfk, ← HAL.out])
        have HBS := hide hbs
        have HSH := hide hsh
        have r1 : wr.cell? ⟨g1, o1 + k, none⟩ = some (.slice ba b.length bcp) := (F1.out.b.cell (p := ⟨g1, o1 + k, none⟩) hgb).trans q1
        clear hfk q1 hbs hsh
        go_wp2_with (at_builtin; apply Hid.out)
        unfold Hid
        refine wpList_append_bs_k rfl _ _ rfl wr w.heap.size w.heap.size (.slice aa an ac) (.slice ba b.length bcp) all b rfl rfl F1.out.row (HBS.out.below (Nat.le_refl _) F1.out.b) HSH.out (by omega) F1.out.b.size ?_
        intro v' W1 O' B' K'
        obtain ⟨na, nn, nc, rfl⟩ : ∃ a n c, v' = .slice a n c := by
          obtain ⟨a, c, h, _⟩ := O'.shape
          exact ⟨a, _, c, h⟩
        have F2 := hide (F1.out.grow K' O' B')
        clear O' B' K' r1 F1
        have PR := hide (rall_any (most := m) (b := all ++ b) (.slice na nn nc) W1 (Bs.of_row F2.out.row) hmm (by rw [List.length_append]; omega))
        go_wp2_with fail
        refine PR.out.mono ?_
        rintro e W2 ⟨ov, tvv, o, t, N, wh, E, rfl, hfin, hor, htr, b2⟩
        obtain ⟨f1, f2, f3, f4, f5⟩ := fin_eq hfin
        have F3 := hide (F2.out.below b2)
        obtain ⟨xa, xc, hxe, hxc, _⟩ := hor.shape
        obtain ⟨ya, yn, yc, hye⟩ : ∃ a n c, tvv = .slice a n c := by
          obtain ⟨a, c, h, _⟩ := htr.shape
          exact ⟨a, _, c, h⟩
        rw [bc_len] at hxe hxc
        subst hxe hye
        have OR := hide hor
        have TR := hide htr
        have hol : ∀ j, W1.heap.size ≤ j → lv.ownBlock ≠ some j := fun j hj e => by have := (F2.out.dec.line.lt e).2; omega
        have hof : ∀ j, W1.heap.size ≤ j → tv.ownBlock ≠ some j := fun j hj e => by have := (F2.out.dec.trs.lt e).2; omega
        have hW1 : W1.heap.size ≤ W2.heap.size := b2.size
        have hgW : w.heap.size < W1.heap.size := F2.out.dec.lt
        have HOL := hide hol
        have HOF := hide hof
        clear hor htr PR hfin b2 F2 hol hof
        unfold rdV
        have HT := hide f2
        have HF1 := hide f1
        have HF3 := hide f3
        have HF4 := hide f4
        have HF5 := hide f5
        clear f1 f2 f3 f4 f5
        go_upto_region 13 with fail
        have BA := hide ((Below.refl W2.heap.size W2).alloc (Nat.le_refl _) (.cells #[.slice xa o.length xc, .slice ya yn yc, .int .i64 (N : Int), .bool wh, .int .i64 (E : Int)] 32))
        have HBN := hide (hp_new W2 (.cells #[.slice xa o.length xc, .slice ya yn yc, .int .i64 (N : Int), .bool wh, .int .i64 (E : Int)] 32))
        have F4 := hide (F3.out.below BA.out)
        have OR4 := hide (OR.out.below BA.out)
        have TR4 := hide (TR.out.below BA.out)
        have hbn : W2.heap.size < (W2.alloc (.cells #[.slice xa o.length xc, .slice ya yn yc, .int .i64 (N : Int), .bool wh, .int .i64 (E : Int)] 32)).heap.size := lt_heap HBN.out
        clear BA F3 OR TR
        generalize (W2.alloc (.cells #[.slice xa o.length xc, .slice ya yn yc, .int .i64 (N : Int), .bool wh, .int .i64 (E : Int)] 32)) = W3 at HBN F4 OR4 TR4 hbn ⊢
        generalize W2.heap.size = bn at HBN hbn hW1 ⊢
        have HFD := hide (feed_st F4.out.dec hmm (HM.out.below F4.out.b) hw2 (A := fun k => k < w.heap.size) ba bcp b (Bs.to_bf (HBS.out.below (Nat.le_refl _) F4.out.b)) HSH.out (by omega) (fun k e => by have := (F4.out.dec.line.lt e).1; omega) (fun k e => by have := (F4.out.dec.trs.lt e).1; omega) (fun k e => by have := F4.out.b.size; omega) (by omega))
        rw [← HF4.out, ← HF5.out] at HFD
        rw [← HF1.out, ← HF3.out] at HFD
        have hon := bytes_len2 all (dNew m)
        have hN := bytes_len (all ++ b) (dNew m)
        rw [← HF3.out, List.length_append] at hN
        go_wp2_with fail
        refine HFD.out.mono ?_
        rintro e W4 ⟨bv, lv', tv', ob, n, rfl, ho, hn2, hr4, hd4, hk4⟩
        obtain ⟨za, zn, zc, rfl⟩ : ∃ a n c, bv = .slice a n c := by
          obtain ⟨a, c, h, _⟩ := hr4.shape
          exact ⟨a, _, c, h⟩
        have F5 := hide (F4.out.feed hd4 hk4)
        have HBN5 : Hid (W4.heap[bn]? = some (.cells #[.slice xa o.length xc, .slice ya yn yc, .int .i64 (N : Int), .bool wh, .int .i64 (E : Int)] 32 (0, 0))) := hide ((hk4.block bn hbn (by omega) (HOL.out bn hW1) (HOF.out bn hW1)).trans HBN.out)
        have OR5 := hide (OR4.out.frame (W' := W4) fun j e => hk4.block j (OR4.out.lt e).2 (by have := (OR4.out.lt e).1; omega) (HOL.out j (OR4.out.lt e).1) (HOF.out j (OR4.out.lt e).1))
        have TR5 := hide (TR4.out.frame (W' := W4) fun j e => hk4.block j (TR4.out.lt e).2 (by have := (TR4.out.lt e).1; omega) (HOL.out j (TR4.out.lt e).1) (HOF.out j (TR4.out.lt e).1))
        have R5 := hide hr4
        have hbw5 : bw < W4.heap.size := lt_heap F5.out.was
        have hbn5 : bn < W4.heap.size := lt_heap HBN5.out
        have hFN : Hid (Value.int .i64 (N : Int) = Value.int .i64 ((dBytes (dNew m) (all ++ b)).2.1 : Int)) := hide (by rw [HF3.out])
        have HFO : Hid (o.length = (dBytes (dNew m) (all ++ b)).2.2.1.length) := hide (by rw [HF1.out])
        clear hr4 hd4 hk4 HFD F4 OR4 TR4 HBN HOL HOF HF1 HF4 HF5
        obtain ⟨on0, hon0⟩ : ∃ k, (dBytes (dNew m) all).2.2.1.length = k := ⟨_, rfl⟩
        obtain ⟨n0, hn0⟩ : ∃ k, (dBytes (dNew m) all).2.1 = k := ⟨_, rfl⟩
        rw [hon0, hn0] at F5
        rw [hn0] at hn2
        have hol2 := congrArg List.length ho
        rw [List.length_append, hon0] at hol2
        have HDR : Hid (o.drop on0 = ob) := hide (by rw [ho, ← hon0, List.drop_left])
        rw [hon0] at hon
        have HON0 := hide hon0
        have HN0 := hide hn0
        have HHO := hide ho
        clear ho hon0 hn0
        have hsub : (N : Int) - (n0 : Int) = (n : Int) := by omega
        have hwrap : IntKind.i64.wrap (n : Int) = (n : Int) := IntWalk.i64_in _ ⟨by omega, by omega⟩
        have b0 : W4.cell? ⟨bn, 0, none⟩ = some (.slice xa o.length xc) := cell_at HBN5.out 0
        have b1 : W4.cell? ⟨bn, 1, none⟩ = some (.slice ya yn yc) := cell_at HBN5.out 1
        have b2 : W4.cell? ⟨bn, 2, none⟩ = some (.int .i64 (N : Int)) := cell_at HBN5.out 2
        have b3 : W4.cell? ⟨bn, 3, none⟩ = some (.bool wh) := cell_at HBN5.out 3
        have b4 : W4.cell? ⟨bn, 4, none⟩ = some (.int .i64 (E : Int)) := cell_at HBN5.out 4
        have a0 : W4.cell? ⟨bw, 0, none⟩ = some (.slice oa on0 oc) := F5.out.cell 0
        have a2 : W4.cell? ⟨bw, 2, none⟩ = some (.int .i64 (n0 : Int)) := F5.out.cell 2
        have HB0 := hide b0
        have HB1 := hide b1
        have HB2 := hide b2
        have HB3 := hide b3
        have HB4 := hide b4
        have HA0 := hide a0
        have HA2 := hide a2
        have CV1 : Hid (∀ W, Below W4.heap.size W4 W → (convert 29 9 (.slice za zn zc)).run Tryd.prog W = .ok (.string ⟨ob.toArray⟩) W) := hide (fun W h => (R5.out.below h).text)
        have HTRL := hide (fun (W : World) (h : Dec W w.heap.size w.heap.size lv' tv' (stD m (all ++ b))) => trailers_st h hmm)
        have HRL := hide (rdT_len hmm (all ++ b))
        have hol3 : on0 ≤ o.length := by omega
        have hol4 : (on0 : Int) ≤ (o.length : Int) := by omega
        have HOL2 := hide hol2
        clear hol2 hn2
        clear b0 b1 b2 b3 b4 a0 a2
        go_upto_region 14 with fail
        have hX : xa = none ∧ xc = 0 ∧ o.length = 0 ∨ (∃ gx, xa = some ⟨gx, 0, none⟩) := by
          rcases OR5.out.2 with ⟨h1, h2⟩ | ⟨g, cap, cur, h1, _⟩
          · simp only [Value.slice.injEq] at h1
            exact .inl ⟨h1.1, h1.2.2, h1.2.1⟩
          · simp only [Value.slice.injEq] at h1
            exact .inr ⟨g, h1.1⟩
        rcases hX with ⟨rfl, rfl, hz⟩ | ⟨gx, rfl⟩
        · obtain rfl : on0 = 0 := by omega
          have CV2 : Hid (∀ W, Below W4.heap.size W4 W → (convert 29 9 (.slice none 0 0)).run Tryd.prog W = .ok (.string ⟨ob.toArray⟩) W) := hide (fun W h => by
            have e : ob = [] := List.eq_nil_of_length_eq_zero (by have := HOL2.out; omega)
            subst e
            exact (Bs.nil W 0).text)
          have hoz : o = [] := List.eq_nil_of_length_eq_zero hz
          clear hz HOL2
          subst hoz
          generalize (⟨ob.toArray⟩ : ByteArray) = so at CV1 CV2
          have BD := hide ((Below.refl W4.heap.size W4).drew)
          have cS : Below W4.heap.size W4 W4.drew := BD.out
          refine wp_region_noPanic ?_
          refine wp_region_held_drew (S := fun W => Below W4.heap.size W4 W) (by kernel_rfl) cS (fun hHeld => ?_)
          refine wpAnyH_take (i := 0) (v := ?_) rfl (by kernel_rfl) (by kernel_rfl) (by kernel_rfl) (fun _ _ _ h => h) (Or.inl ⟨by rfl, ?_⟩) (by assumption) ?_
          rotate_left
          · (intro W hSw; (try dsimp only at hSw); go_simp; try with_reducible rfl)
          simp only [List.getElem_toArray, List.getElem_cons_zero, Act.put, List.setIfInBounds_toArray, List.set_cons_zero, List.set_cons_succ]
          refine wpAnyH_take (i := 1) (v := ?_) rfl (by kernel_rfl) (by kernel_rfl) (by kernel_rfl) (fun _ _ _ h => h) (Or.inl ⟨by rfl, ?_⟩) (by assumption) ?_
          rotate_left
          · (intro W hSw; have hc := CV1.out W hSw; go_simp; try with_reducible rfl)
          simp only [List.getElem_toArray, List.getElem_cons_zero, List.getElem_cons_succ, Act.put, List.setIfInBounds_toArray, List.set_cons_zero, List.set_cons_succ]
          refine wpAnyH_take (i := 2) (v := ?_) rfl (by kernel_rfl) (by kernel_rfl) (by kernel_rfl) (fun _ _ _ h => h) (Or.inl ⟨by rfl, ?_⟩) (by assumption) ?_
          rotate_left
          · (intro W hSw; (try dsimp only at hSw); go_simp; try with_reducible rfl)
          simp only [List.getElem_toArray, List.getElem_cons_zero, List.getElem_cons_succ, Act.put, List.setIfInBounds_toArray, List.set_cons_zero, List.set_cons_succ]
          refine wpAnyH_take (i := 3) (v := ?_) rfl (by kernel_rfl) (by kernel_rfl) (by kernel_rfl) (fun _ _ _ h => h) (Or.inl ⟨by rfl, ?_⟩) (by assumption) ?_
          rotate_left
          · (intro W hSw; have hc := (hSw.cell (p := ⟨bn, 0, none⟩) hbn5).trans HB0.out; go_simp; try with_reducible rfl)
          simp only [List.getElem_toArray, List.getElem_cons_zero, List.getElem_cons_succ, Act.put, List.setIfInBounds_toArray, List.set_cons_zero, List.set_cons_succ]
          refine wpAnyH_take (i := 4) (v := ?_) rfl (by kernel_rfl) (by kernel_rfl) (by kernel_rfl) (fun _ _ _ h => h) (Or.inl ⟨by rfl, ?_⟩) (by assumption) ?_
          rotate_left
          · (intro W hSw; (try dsimp only at hSw); go_simp; try with_reducible rfl)
          simp only [List.getElem_toArray, List.getElem_cons_zero, List.getElem_cons_succ, Act.put, List.setIfInBounds_toArray, List.set_cons_zero, List.set_cons_succ]
          refine wpAnyH_take (i := 5) (v := ?_) rfl (by kernel_rfl) (by kernel_rfl) (by kernel_rfl) (fun _ _ _ h => h) (Or.inl ⟨by rfl, ?_⟩) (by assumption) ?_
          rotate_left
          · (intro W hSw; have hc := (hSw.cell (p := ⟨bw, 0, none⟩) hbw5).trans HA0.out; go_simp; try with_reducible rfl)
          simp only [List.getElem_toArray, List.getElem_cons_zero, List.getElem_cons_succ, Act.put, List.setIfInBounds_toArray, List.set_cons_zero, List.set_cons_succ]
          refine wpAnyH_take (i := 6) (v := ?_) rfl (by kernel_rfl) (by kernel_rfl) (by kernel_rfl) (fun _ _ _ h => h) (Or.inl ⟨by rfl, ?_⟩) (by assumption) ?_
          rotate_left
          · (intro W hSw; (try dsimp only at hSw); go_simp; try with_reducible rfl)
          simp only [List.getElem_toArray, List.getElem_cons_zero, List.getElem_cons_succ, Act.put, List.setIfInBounds_toArray, List.set_cons_zero, List.set_cons_succ]
          refine wpAnyH_take (i := 7) (v := ?_) rfl (by kernel_rfl) (by kernel_rfl) (by kernel_rfl) (fun _ _ _ h => h) (Or.inl ⟨by rfl, ?_⟩) (by assumption) ?_
          rotate_left
          · (intro W hSw; (try dsimp only at hSw); go_simp; try with_reducible rfl)
          simp only [List.getElem_toArray, List.getElem_cons_zero, List.getElem_cons_succ, Act.put, List.setIfInBounds_toArray, List.set_cons_zero, List.set_cons_succ]
          refine wpAnyH_take (i := 8) (v := ?_) rfl (by kernel_rfl) (by kernel_rfl) (by kernel_rfl) (fun _ _ _ h => h) (Or.inl ⟨by rfl, ?_⟩) (by assumption) ?_
          rotate_left
          · (intro W hSw; have hc := CV2.out W hSw; go_simp; try with_reducible rfl)
          simp only [List.getElem_toArray, List.getElem_cons_zero, List.getElem_cons_succ, Act.put, List.setIfInBounds_toArray, List.set_cons_zero, List.set_cons_succ]
          refine wpAnyH_take (i := 9) (v := .bool false) rfl (by kernel_rfl) (by kernel_rfl) (by kernel_rfl) (fun _ _ _ h => h) (Or.inl ⟨by rfl, ?_⟩) (by assumption) ?_
          · (intro W hSw; go_simp)
          simp only [List.getElem_toArray, List.getElem_cons_zero, List.getElem_cons_succ, Act.put, List.setIfInBounds_toArray, List.set_cons_zero, List.set_cons_succ]
          refine wpAnyH_take (i := 10) (v := ?_) rfl (by kernel_rfl) (by kernel_rfl) (by kernel_rfl) (fun _ _ _ h => h) (Or.inl ⟨by rfl, ?_⟩) (by assumption) ?_
          rotate_left
          · (intro W hSw; (try dsimp only at hSw); go_simp; try with_reducible rfl)
          simp only [List.getElem_toArray, List.getElem_cons_zero, List.getElem_cons_succ, Act.put, List.setIfInBounds_toArray, List.set_cons_zero, List.set_cons_succ]
          refine wpAnyH_take (i := 11) (v := ?_) rfl (by kernel_rfl) (by kernel_rfl) (by kernel_rfl) (fun _ _ _ h => h) (Or.inl ⟨by rfl, ?_⟩) (by assumption) ?_
          rotate_left
          · (intro W hSw; (try dsimp only at hSw); go_simp; try with_reducible rfl)
          simp only [List.getElem_toArray, List.getElem_cons_zero, List.getElem_cons_succ, Act.put, List.setIfInBounds_toArray, List.set_cons_zero, List.set_cons_succ]
          refine wpAnyH_take (i := 12) (v := ?_) rfl (by kernel_rfl) (by kernel_rfl) (by kernel_rfl) (fun _ _ _ h => h) (Or.inl ⟨by rfl, ?_⟩) (by assumption) ?_
          rotate_left
          · (intro W hSw; (try dsimp only at hSw); go_simp; try with_reducible rfl)
          simp only [List.getElem_toArray, List.getElem_cons_zero, List.getElem_cons_succ, Act.put, List.setIfInBounds_toArray, List.set_cons_zero, List.set_cons_succ]
          refine wpAnyH_take (i := 13) (v := ?_) rfl (by kernel_rfl) (by kernel_rfl) (by kernel_rfl) (fun _ _ _ h => h) (Or.inl ⟨by rfl, ?_⟩) (by assumption) ?_
          rotate_left
          · (intro W hSw; have hc := (hSw.cell (p := ⟨bn, 2, none⟩) hbn5).trans HB2.out; go_simp; try with_reducible rfl)
          simp only [List.getElem_toArray, List.getElem_cons_zero, List.getElem_cons_succ, Act.put, List.setIfInBounds_toArray, List.set_cons_zero, List.set_cons_succ]
          refine wpAnyH_take (i := 14) (v := ?_) rfl (by kernel_rfl) (by kernel_rfl) (by kernel_rfl) (fun _ _ _ h => h) (Or.inl ⟨by rfl, ?_⟩) (by assumption) ?_
          rotate_left
          · (intro W hSw; (try dsimp only at hSw); go_simp; try with_reducible rfl)
          simp only [List.getElem_toArray, List.getElem_cons_zero, List.getElem_cons_succ, Act.put, List.setIfInBounds_toArray, List.set_cons_zero, List.set_cons_succ]
          refine wpAnyH_take (i := 15) (v := ?_) rfl (by kernel_rfl) (by kernel_rfl) (by kernel_rfl) (fun _ _ _ h => h) (Or.inl ⟨by rfl, ?_⟩) (by assumption) ?_
          rotate_left
          · (intro W hSw; have hc := (hSw.cell (p := ⟨bw, 2, none⟩) hbw5).trans HA2.out; go_simp; try with_reducible rfl)
          simp only [List.getElem_toArray, List.getElem_cons_zero, List.getElem_cons_succ, Act.put, List.setIfInBounds_toArray, List.set_cons_zero, List.set_cons_succ]
          refine wpAnyH_take (i := 16) (v := .int .i64 (n : Int)) rfl (by kernel_rfl) (by kernel_rfl) (by kernel_rfl) (fun _ _ _ h => h) (Or.inl ⟨by rfl, ?_⟩) (by assumption) ?_
          · (intro W hSw; go_simp)
          simp only [List.getElem_toArray, List.getElem_cons_zero, List.getElem_cons_succ, Act.put, List.setIfInBounds_toArray, List.set_cons_zero, List.set_cons_succ]
          refine wpAnyH_take (i := 17) (v := .bool false) rfl (by kernel_rfl) (by kernel_rfl) (by kernel_rfl) (fun _ _ _ h => h) (Or.inl ⟨by rfl, ?_⟩) (by assumption) ?_
          · (intro W hSw; go_simp)
          simp only [List.getElem_toArray, List.getElem_cons_zero, List.getElem_cons_succ, Act.put, List.setIfInBounds_toArray, List.set_cons_zero, List.set_cons_succ]
          refine wpAnyH_take (i := 18) (v := ?_) rfl (by kernel_rfl) (by kernel_rfl) (by kernel_rfl) (fun _ _ _ h => h) (Or.inl ⟨by rfl, ?_⟩) (by assumption) ?_
          rotate_left
          · (intro W hSw; (try dsimp only at hSw); go_simp; try with_reducible rfl)
          simp only [List.getElem_toArray, List.getElem_cons_zero, List.getElem_cons_succ, Act.put, List.setIfInBounds_toArray, List.set_cons_zero, List.set_cons_succ]
          refine wpAnyH_take (i := 19) (v := ?_) rfl (by kernel_rfl) (by kernel_rfl) (by kernel_rfl) (fun _ _ _ h => h) (Or.inl ⟨by rfl, ?_⟩) (by assumption) ?_
          rotate_left
          · (intro W hSw; (try dsimp only at hSw); go_simp; try with_reducible rfl)
          simp only [List.getElem_toArray, List.getElem_cons_zero, List.getElem_cons_succ, Act.put, List.setIfInBounds_toArray, List.set_cons_zero, List.set_cons_succ]
          refine wpAnyH_take (i := 20) (v := ?_) rfl (by kernel_rfl) (by kernel_rfl) (by kernel_rfl) (fun _ _ _ h => h) (Or.inl ⟨by rfl, ?_⟩) (by assumption) ?_
          rotate_left
          · (intro W hSw; (try dsimp only at hSw); go_simp; try with_reducible rfl)
          simp only [List.getElem_toArray, List.getElem_cons_zero, List.getElem_cons_succ, Act.put, List.setIfInBounds_toArray, List.set_cons_zero, List.set_cons_succ]
          refine wpAnyH_take (i := 21) (v := ?_) rfl (by kernel_rfl) (by kernel_rfl) (by kernel_rfl) (fun _ _ _ h => h) (Or.inl ⟨by rfl, ?_⟩) (by assumption) ?_
          rotate_left
          · (intro W hSw; (try dsimp only at hSw); go_simp; try with_reducible rfl)
          simp only [List.getElem_toArray, List.getElem_cons_zero, List.getElem_cons_succ, Act.put, List.setIfInBounds_toArray, List.set_cons_zero, List.set_cons_succ]
          refine wpAnyH_take (i := 22) (v := ?_) rfl (by kernel_rfl) (by kernel_rfl) (by kernel_rfl) (fun _ _ _ h => h) (Or.inl ⟨by rfl, ?_⟩) (by assumption) ?_
          rotate_left
          · (intro W hSw; have hc := (hSw.cell (p := ⟨bn, 3, none⟩) hbn5).trans HB3.out; go_simp; try with_reducible rfl)
          simp only [List.getElem_toArray, List.getElem_cons_zero, List.getElem_cons_succ, Act.put, List.setIfInBounds_toArray, List.set_cons_zero, List.set_cons_succ]
          refine wpAnyH_take (i := 23) (v := .bool false) rfl (by kernel_rfl) (by kernel_rfl) (by kernel_rfl) (fun _ _ _ h => h) (Or.inl ⟨by rfl, ?_⟩) (by assumption) ?_
          · (intro W hSw; go_simp)
          simp only [List.getElem_toArray, List.getElem_cons_zero, List.getElem_cons_succ, Act.put, List.setIfInBounds_toArray, List.set_cons_zero, List.set_cons_succ]
          refine wpAnyH_take (i := 24) (v := ?_) rfl (by kernel_rfl) (by kernel_rfl) (by kernel_rfl) (fun _ _ _ h => h) (Or.inl ⟨by rfl, ?_⟩) (by assumption) ?_
          rotate_left
          · (intro W hSw; (try dsimp only at hSw); go_simp; try with_reducible rfl)
          simp only [List.getElem_toArray, List.getElem_cons_zero, List.getElem_cons_succ, Act.put, List.setIfInBounds_toArray, List.set_cons_zero, List.set_cons_succ]
          refine wpAnyH_take (i := 25) (v := ?_) rfl (by kernel_rfl) (by kernel_rfl) (by kernel_rfl) (fun _ _ _ h => h) (Or.inl ⟨by rfl, ?_⟩) (by assumption) ?_
          rotate_left
          · (intro W hSw; (try dsimp only at hSw); go_simp; try with_reducible rfl)
          simp only [List.getElem_toArray, List.getElem_cons_zero, List.getElem_cons_succ, Act.put, List.setIfInBounds_toArray, List.set_cons_zero, List.set_cons_succ]
          refine wpAnyH_take (i := 26) (v := ?_) rfl (by kernel_rfl) (by kernel_rfl) (by kernel_rfl) (fun _ _ _ h => h) (Or.inl ⟨by rfl, ?_⟩) (by assumption) ?_
          rotate_left
          · (intro W hSw; (try dsimp only at hSw); go_simp; try with_reducible rfl)
          simp only [List.getElem_toArray, List.getElem_cons_zero, List.getElem_cons_succ, Act.put, List.setIfInBounds_toArray, List.set_cons_zero, List.set_cons_succ]
          refine wpAnyH_take (i := 27) (v := ?_) rfl (by kernel_rfl) (by kernel_rfl) (by kernel_rfl) (fun _ _ _ h => h) (Or.inl ⟨by rfl, ?_⟩) (by assumption) ?_
          rotate_left
          · (intro W hSw; (try dsimp only at hSw); go_simp; try with_reducible rfl)
          simp only [List.getElem_toArray, List.getElem_cons_zero, List.getElem_cons_succ, Act.put, List.setIfInBounds_toArray, List.set_cons_zero, List.set_cons_succ]
          refine wpAnyH_take (i := 28) (v := ?_) rfl (by kernel_rfl) (by kernel_rfl) (by kernel_rfl) (fun _ _ _ h => h) (Or.inl ⟨by rfl, ?_⟩) (by assumption) ?_
          rotate_left
          · (intro W hSw; have hc := (hSw.cell (p := ⟨bn, 4, none⟩) hbn5).trans HB4.out; go_simp; try with_reducible rfl)
          simp only [List.getElem_toArray, List.getElem_cons_zero, List.getElem_cons_succ, Act.put, List.setIfInBounds_toArray, List.set_cons_zero, List.set_cons_succ]
          refine wpAnyH_take (i := 29) (v := .bool false) rfl (by kernel_rfl) (by kernel_rfl) (by kernel_rfl) (fun _ _ _ h => h) (Or.inl ⟨by rfl, ?_⟩) (by assumption) ?_
          · (intro W hSw; go_simp)
          simp only [List.getElem_toArray, List.getElem_cons_zero, List.getElem_cons_succ, Act.put, List.setIfInBounds_toArray, List.set_cons_zero, List.set_cons_succ]
          refine wpAnyH_take (i := 30) (v := ?_) rfl (by kernel_rfl) (by kernel_rfl) (by kernel_rfl) (fun _ _ _ h => h) (Or.inl ⟨by rfl, ?_⟩) (by assumption) ?_
          rotate_left
          · (intro W hSw; (try dsimp only at hSw); go_simp; try with_reducible rfl)
          simp only [List.getElem_toArray, List.getElem_cons_zero, List.getElem_cons_succ, Act.put, List.setIfInBounds_toArray, List.set_cons_zero, List.set_cons_succ]
          refine wpAnyH_take (i := 31) (v := ?_) rfl (by kernel_rfl) (by kernel_rfl) (by kernel_rfl) (fun _ _ _ h => h) (Or.inl ⟨by rfl, ?_⟩) (by assumption) ?_
          rotate_left
          · (intro W hSw; (try dsimp only at hSw); go_simp; try with_reducible rfl)
          simp only [List.getElem_toArray, List.getElem_cons_zero, List.getElem_cons_succ, Act.put, List.setIfInBounds_toArray, List.set_cons_zero, List.set_cons_succ]
          refine wpAnyH_take (i := 32) (v := ?_) rfl (by kernel_rfl) (by kernel_rfl) (by kernel_rfl) (fun _ _ _ h => h) (Or.inl ⟨by rfl, ?_⟩) (by assumption) ?_
          rotate_left
          · (intro W hSw; (try dsimp only at hSw); go_simp; try with_reducible rfl)
          simp only [List.getElem_toArray, List.getElem_cons_zero, List.getElem_cons_succ, Act.put, List.setIfInBounds_toArray, List.set_cons_zero, List.set_cons_succ]
          refine wpAnyH_take (i := 34) (v := ?_) rfl (by kernel_rfl) (by kernel_rfl) (by kernel_rfl) (fun _ _ _ h => h) (Or.inl ⟨by rfl, ?_⟩) (by assumption) ?_
          rotate_left
          · (intro W hSw; (try dsimp only at hSw); go_simp; try with_reducible rfl)
          simp only [List.getElem_toArray, List.getElem_cons_zero, List.getElem_cons_succ, Act.put, List.setIfInBounds_toArray, List.set_cons_zero, List.set_cons_succ]
          refine wpAnyH_take (i := 35) (v := ?_) rfl (by kernel_rfl) (by kernel_rfl) (by kernel_rfl) (fun _ _ _ h => h) (Or.inl ⟨by rfl, ?_⟩) (by assumption) ?_
          rotate_left
          · (intro W hSw; have hc := (hSw.cell (p := ⟨bn, 1, none⟩) hbn5).trans HB1.out; go_simp; try with_reducible rfl)
          simp only [List.getElem_toArray, List.getElem_cons_zero, List.getElem_cons_succ, Act.put, List.setIfInBounds_toArray, List.set_cons_zero, List.set_cons_succ]
          refine wpAnyH_ready (rs := [33]) (by kernel_rfl) (by simp) ?_
          refine AllReadyH.cons rfl (fun K hK => ?_) AllReadyH.nil
          go_simp
          refine (HTRL.out W4.drew (F5.out.dec.below cS)).mono ?_
          rintro e W5 ⟨tq, rfl, htq, b5⟩
          obtain ⟨qa, qn, qc, rfl⟩ : ∃ a n c, tq = .slice a n c := by
            obtain ⟨a, c, h, _⟩ := htq.shape
            exact ⟨a, _, c, h⟩
          have c5 : Below W4.heap.size W4 W5 := cS.trans (b5.mono cS.size)
          have HPF := hide (plainF_any W5 _ (.slice ya yn yc) (rdT m (all ++ b)) t (Flds.of_row htq) ((Flds.of_row TR5.out).below c5) (by have := HRL.out; omega) (by rw [HT.out]; have := HRL.out; omega))
          rw [decide_eq_true HT.out.symm] at HPF
          clear htq b5 cS BD
          (try go_wp2_with fail)
          refine hK.out _ _ c5 (fun hHeld => ?_)
          clear hK K
          try simp only [List.getElem_toArray, List.getElem_cons_zero, List.getElem_cons_succ, Act.put, List.setIfInBounds_toArray, List.set_cons_zero, List.set_cons_succ]
          refine wpAnyH_ready (rs := [36]) (by kernel_rfl) (by simp) ?_
          refine AllReadyH.cons rfl (fun K hK => ?_) AllReadyH.nil
          go_simp
          refine HPF.out.mono ?_
          rintro e W6 ⟨rfl, b6⟩
          have c6 : Below W4.heap.size W4 W6 := c5.trans (b6.mono c5.size)
          clear b6 HPF
          (try go_wp2_with fail)
          refine hK.out _ _ c6 (fun hHeld => ?_)
          clear hK K c5
          try simp only [List.getElem_toArray, List.getElem_cons_zero, List.getElem_cons_succ, Act.put, List.setIfInBounds_toArray, List.set_cons_zero, List.set_cons_succ]
          refine wpAnyH_take (i := 37) (v := ?_) rfl (by kernel_rfl) (by kernel_rfl) (by kernel_rfl) (fun _ _ _ h => h) (Or.inl ⟨by rfl, ?_⟩) (by assumption) ?_
          rotate_left
          · (intro W hSw; (try dsimp only at hSw); go_simp; try with_reducible rfl)
          simp only [List.getElem_toArray, List.getElem_cons_zero, List.getElem_cons_succ, Act.put, List.setIfInBounds_toArray, List.set_cons_zero, List.set_cons_succ]
          refine wpAnyH_take (i := 38) (v := ?_) rfl (by kernel_rfl) (by kernel_rfl) (by kernel_rfl) (fun _ _ _ h => h) (Or.inl ⟨by rfl, ?_⟩) (by assumption) ?_
          rotate_left
          · (intro W hSw; (try dsimp only at hSw); go_simp; try with_reducible rfl)
          simp only [List.getElem_toArray, List.getElem_cons_zero, List.getElem_cons_succ, Act.put, List.setIfInBounds_toArray, List.set_cons_zero, List.set_cons_succ]
          refine wpAnyH_done (by kernel_rfl) ?_ _
          clear hHeld
          refine NoPanic.normal ?_
          have F6 := hide (F5.out.below c6)
          have b0 : W6.cell? ⟨bn, 0, none⟩ = some (.slice none 0 0) := (c6.cell (p := ⟨bn, 0, none⟩) hbn5).trans HB0.out
          have b1 : W6.cell? ⟨bn, 1, none⟩ = some (.slice ya yn yc) := (c6.cell (p := ⟨bn, 1, none⟩) hbn5).trans HB1.out
          have b2 : W6.cell? ⟨bn, 2, none⟩ = some (.int .i64 (N : Int)) := (c6.cell (p := ⟨bn, 2, none⟩) hbn5).trans HB2.out
          have b3 : W6.cell? ⟨bn, 3, none⟩ = some (.bool wh) := (c6.cell (p := ⟨bn, 3, none⟩) hbn5).trans HB3.out
          have b4 : W6.cell? ⟨bn, 4, none⟩ = some (.int .i64 (E : Int)) := (c6.cell (p := ⟨bn, 4, none⟩) hbn5).trans HB4.out
          have a0 : W6.cell? ⟨bw, 0, none⟩ = some (.slice oa 0 oc) := F6.out.cell 0
          have f0 : W6.frozen? ⟨bw, 0, none⟩ = false := F6.out.froz 0
          have a1 : W6.cell? ⟨bw, 1, none⟩ = some (.slice ta tn tc) := F6.out.cell 1
          have f1 : W6.frozen? ⟨bw, 1, none⟩ = false := F6.out.froz 1
          have a2 : W6.cell? ⟨bw, 2, none⟩ = some (.int .i64 (n0 : Int)) := F6.out.cell 2
          have f2 : W6.frozen? ⟨bw, 2, none⟩ = false := F6.out.froz 2
          have a3 : W6.cell? ⟨bw, 3, none⟩ = some (.bool bh) := F6.out.cell 3
          have f3 : W6.frozen? ⟨bw, 3, none⟩ = false := F6.out.froz 3
          have a4 : W6.cell? ⟨bw, 4, none⟩ = some (.int .i64 ee) := F6.out.cell 4
          have f4 : W6.frozen? ⟨bw, 4, none⟩ = false := F6.out.froz 4
          clear c6 F5
          go_wp2_with fail
          have G0 : Hid (FS w (W6.setCell ⟨bw, 0, none⟩ (.slice none 0 0)) bw lv' tv' (.slice na nn nc) (stD m (all ++ b)) (all ++ b) #[.slice none 0 0, .slice ta tn tc, .int .i64 (n0 : Int), .bool bh, .int .i64 ee]) := hide (F6.out.set 0 (.slice none 0 0))
          have G1 : Hid (FS w ((W6.setCell ⟨bw, 0, none⟩ (.slice none 0 0)).setCell ⟨bw, 1, none⟩ (.slice ya yn yc)) bw lv' tv' (.slice na nn nc) (stD m (all ++ b)) (all ++ b) #[.slice none 0 0, .slice ya yn yc, .int .i64 (n0 : Int), .bool bh, .int .i64 ee]) := hide (G0.out.set 1 (.slice ya yn yc))
          have G2 : Hid (FS w (((W6.setCell ⟨bw, 0, none⟩ (.slice none 0 0)).setCell ⟨bw, 1, none⟩ (.slice ya yn yc)).setCell ⟨bw, 2, none⟩ (.int .i64 (N : Int))) bw lv' tv' (.slice na nn nc) (stD m (all ++ b)) (all ++ b) #[.slice none 0 0, .slice ya yn yc, .int .i64 (N : Int), .bool bh, .int .i64 ee]) := hide (G1.out.set 2 (.int .i64 (N : Int)))
          have G3 : Hid (FS w ((((W6.setCell ⟨bw, 0, none⟩ (.slice none 0 0)).setCell ⟨bw, 1, none⟩ (.slice ya yn yc)).setCell ⟨bw, 2, none⟩ (.int .i64 (N : Int))).setCell ⟨bw, 3, none⟩ (.bool wh)) bw lv' tv' (.slice na nn nc) (stD m (all ++ b)) (all ++ b) #[.slice none 0 0, .slice ya yn yc, .int .i64 (N : Int), .bool wh, .int .i64 ee]) := hide (G2.out.set 3 (.bool wh))
          have G4 : Hid (FS w (((((W6.setCell ⟨bw, 0, none⟩ (.slice none 0 0)).setCell ⟨bw, 1, none⟩ (.slice ya yn yc)).setCell ⟨bw, 2, none⟩ (.int .i64 (N : Int))).setCell ⟨bw, 3, none⟩ (.bool wh)).setCell ⟨bw, 4, none⟩ (.int .i64 (E : Int))) bw lv' tv' (.slice na nn nc) (stD m (all ++ b)) (all ++ b) #[.slice none 0 0, .slice ya yn yc, .int .i64 (N : Int), .bool wh, .int .i64 (E : Int)]) := hide (G3.out.set 4 (.int .i64 (E : Int)))
          clear F6 G0 G1 G2 G3 b0 a0 f0 b1 a1 f1 b2 a2 f2 b3 a3 f3 b4 a4 f4
          generalize (((((W6.setCell ⟨bw, 0, none⟩ (.slice none 0 0)).setCell ⟨bw, 1, none⟩ (.slice ya yn yc)).setCell ⟨bw, 2, none⟩ (.int .i64 (N : Int))).setCell ⟨bw, 3, none⟩ (.bool wh)).setCell ⟨bw, 4, none⟩ (.int .i64 (E : Int))) = W9 at G4 ⊢
          have GX : Hid (FS w W9 bw lv' tv' (.slice na nn nc) (stD m (all ++ b)) (all ++ b) #[.slice none (dBytes (dNew m) (all ++ b)).2.2.1.length 0, .slice ya yn yc, .int .i64 ((dBytes (dNew m) (all ++ b)).2.1 : Int), .bool wh, .int .i64 (E : Int)]) := hide (by rw [← HFO.out, ← hFN.out]; exact G4.out)
          clear G4
          go_wp2_with fail
          exact ⟨⟨k + 1, all ++ b, na, nn, nc, lv', tv', _, _, ya, yn, yc, wh, (E : Int), by omega, rfl, by go_num, HAL2, GX⟩, by simp [intOf]; omega⟩
        · by_cases hxp : xc = on0
          · have CV2 : Hid (∀ W, Below W4.heap.size W4 W → (convert 29 9 (.slice (some ⟨gx, 0, none⟩) (o.length - on0) 0)).run Tryd.prog W = .ok (.string ⟨ob.toArray⟩) W) := hide (fun W h => by
              have hxc2 := hxc
              have e : ob = [] := List.eq_nil_of_length_eq_zero (by have := HOL2.out; omega)
              subst e
              have e2 : o.length - on0 = 0 := by omega
              rw [e2]
              exact run_convert_bytes_back W 29 9 5 ⟨gx, 0, none⟩ _ [] Tryd.underlying29 Tryd.underlying5 Tryd.underlying9 (fun j hj => by simp at hj))
            generalize (⟨ob.toArray⟩ : ByteArray) = so at CV1 CV2
            have BD := hide ((Below.refl W4.heap.size W4).drew)
            have cS : Below W4.heap.size W4 W4.drew := BD.out
            refine wp_region_noPanic ?_
            refine wp_region_held_drew (S := fun W => Below W4.heap.size W4 W) (by kernel_rfl) cS (fun hHeld => ?_)
            refine wpAnyH_take (i := 0) (v := ?_) rfl (by kernel_rfl) (by kernel_rfl) (by kernel_rfl) (fun _ _ _ h => h) (Or.inl ⟨by rfl, ?_⟩) (by assumption) ?_
            rotate_left
            · (intro W hSw; (try dsimp only at hSw); go_simp; try with_reducible rfl)
            simp only [List.getElem_toArray, List.getElem_cons_zero, Act.put, List.setIfInBounds_toArray, List.set_cons_zero, List.set_cons_succ]
            refine wpAnyH_take (i := 1) (v := ?_) rfl (by kernel_rfl) (by kernel_rfl) (by kernel_rfl) (fun _ _ _ h => h) (Or.inl ⟨by rfl, ?_⟩) (by assumption) ?_
            rotate_left
            · (intro W hSw; have hc := CV1.out W hSw; go_simp; try with_reducible rfl)
            simp only [List.getElem_toArray, List.getElem_cons_zero, List.getElem_cons_succ, Act.put, List.setIfInBounds_toArray, List.set_cons_zero, List.set_cons_succ]
            refine wpAnyH_take (i := 2) (v := ?_) rfl (by kernel_rfl) (by kernel_rfl) (by kernel_rfl) (fun _ _ _ h => h) (Or.inl ⟨by rfl, ?_⟩) (by assumption) ?_
            rotate_left
            · (intro W hSw; (try dsimp only at hSw); go_simp; try with_reducible rfl)
            simp only [List.getElem_toArray, List.getElem_cons_zero, List.getElem_cons_succ, Act.put, List.setIfInBounds_toArray, List.set_cons_zero, List.set_cons_succ]
            refine wpAnyH_take (i := 3) (v := ?_) rfl (by kernel_rfl) (by kernel_rfl) (by kernel_rfl) (fun _ _ _ h => h) (Or.inl ⟨by rfl, ?_⟩) (by assumption) ?_
            rotate_left
            · (intro W hSw; have hc := (hSw.cell (p := ⟨bn, 0, none⟩) hbn5).trans HB0.out; go_simp; try with_reducible rfl)
            simp only [List.getElem_toArray, List.getElem_cons_zero, List.getElem_cons_succ, Act.put, List.setIfInBounds_toArray, List.set_cons_zero, List.set_cons_succ]
            refine wpAnyH_take (i := 4) (v := ?_) rfl (by kernel_rfl) (by kernel_rfl) (by kernel_rfl) (fun _ _ _ h => h) (Or.inl ⟨by rfl, ?_⟩) (by assumption) ?_
            rotate_left
            · (intro W hSw; (try dsimp only at hSw); go_simp; try with_reducible rfl)
            simp only [List.getElem_toArray, List.getElem_cons_zero, List.getElem_cons_succ, Act.put, List.setIfInBounds_toArray, List.set_cons_zero, List.set_cons_succ]
            refine wpAnyH_take (i := 5) (v := ?_) rfl (by kernel_rfl) (by kernel_rfl) (by kernel_rfl) (fun _ _ _ h => h) (Or.inl ⟨by rfl, ?_⟩) (by assumption) ?_
            rotate_left
            · (intro W hSw; have hc := (hSw.cell (p := ⟨bw, 0, none⟩) hbw5).trans HA0.out; go_simp; try with_reducible rfl)
            simp only [List.getElem_toArray, List.getElem_cons_zero, List.getElem_cons_succ, Act.put, List.setIfInBounds_toArray, List.set_cons_zero, List.set_cons_succ]
            refine wpAnyH_take (i := 6) (v := ?_) rfl (by kernel_rfl) (by kernel_rfl) (by kernel_rfl) (fun _ _ _ h => h) (Or.inl ⟨by rfl, ?_⟩) (by assumption) ?_
            rotate_left
            · (intro W hSw; (try dsimp only at hSw); go_simp; try with_reducible rfl)
            simp only [List.getElem_toArray, List.getElem_cons_zero, List.getElem_cons_succ, Act.put, List.setIfInBounds_toArray, List.set_cons_zero, List.set_cons_succ]
            refine wpAnyH_take (i := 7) (v := ?_) rfl (by kernel_rfl) (by kernel_rfl) (by kernel_rfl) (fun _ _ _ h => h) (Or.inl ⟨by rfl, ?_⟩) (by assumption) ?_
            rotate_left
            · (intro W hSw; (try dsimp only at hSw); go_simp; try with_reducible rfl)
            simp only [List.getElem_toArray, List.getElem_cons_zero, List.getElem_cons_succ, Act.put, List.setIfInBounds_toArray, List.set_cons_zero, List.set_cons_succ]
            refine wpAnyH_take (i := 8) (v := ?_) rfl (by kernel_rfl) (by kernel_rfl) (by kernel_rfl) (fun _ _ _ h => h) (Or.inl ⟨by rfl, ?_⟩) (by assumption) ?_
            rotate_left
            · (intro W hSw; have hc := CV2.out W hSw; go_simp; try with_reducible rfl)
            simp only [List.getElem_toArray, List.getElem_cons_zero, List.getElem_cons_succ, Act.put, List.setIfInBounds_toArray, List.set_cons_zero, List.set_cons_succ]
            refine wpAnyH_take (i := 9) (v := .bool false) rfl (by kernel_rfl) (by kernel_rfl) (by kernel_rfl) (fun _ _ _ h => h) (Or.inl ⟨by rfl, ?_⟩) (by assumption) ?_
            · (intro W hSw; go_simp)
            simp only [List.getElem_toArray, List.getElem_cons_zero, List.getElem_cons_succ, Act.put, List.setIfInBounds_toArray, List.set_cons_zero, List.set_cons_succ]
            refine wpAnyH_take (i := 10) (v := ?_) rfl (by kernel_rfl) (by kernel_rfl) (by kernel_rfl) (fun _ _ _ h => h) (Or.inl ⟨by rfl, ?_⟩) (by assumption) ?_
            rotate_left
            · (intro W hSw; (try dsimp only at hSw); go_simp; try with_reducible rfl)
            simp only [List.getElem_toArray, List.getElem_cons_zero, List.getElem_cons_succ, Act.put, List.setIfInBounds_toArray, List.set_cons_zero, List.set_cons_succ]
            refine wpAnyH_take (i := 11) (v := ?_) rfl (by kernel_rfl) (by kernel_rfl) (by kernel_rfl) (fun _ _ _ h => h) (Or.inl ⟨by rfl, ?_⟩) (by assumption) ?_
            rotate_left
            · (intro W hSw; (try dsimp only at hSw); go_simp; try with_reducible rfl)
            simp only [List.getElem_toArray, List.getElem_cons_zero, List.getElem_cons_succ, Act.put, List.setIfInBounds_toArray, List.set_cons_zero, List.set_cons_succ]
            refine wpAnyH_take (i := 12) (v := ?_) rfl (by kernel_rfl) (by kernel_rfl) (by kernel_rfl) (fun _ _ _ h => h) (Or.inl ⟨by rfl, ?_⟩) (by assumption) ?_
            rotate_left
            · (intro W hSw; (try dsimp only at hSw); go_simp; try with_reducible rfl)
            simp only [List.getElem_toArray, List.getElem_cons_zero, List.getElem_cons_succ, Act.put, List.setIfInBounds_toArray, List.set_cons_zero, List.set_cons_succ]
            refine wpAnyH_take (i := 13) (v := ?_) rfl (by kernel_rfl) (by kernel_rfl) (by kernel_rfl) (fun _ _ _ h => h) (Or.inl ⟨by rfl, ?_⟩) (by assumption) ?_
            rotate_left
            · (intro W hSw; have hc := (hSw.cell (p := ⟨bn, 2, none⟩) hbn5).trans HB2.out; go_simp; try with_reducible rfl)
            simp only [List.getElem_toArray, List.getElem_cons_zero, List.getElem_cons_succ, Act.put, List.setIfInBounds_toArray, List.set_cons_zero, List.set_cons_succ]
            refine wpAnyH_take (i := 14) (v := ?_) rfl (by kernel_rfl) (by kernel_rfl) (by kernel_rfl) (fun _ _ _ h => h) (Or.inl ⟨by rfl, ?_⟩) (by assumption) ?_
            rotate_left
            · (intro W hSw; (try dsimp only at hSw); go_simp; try with_reducible rfl)
            simp only [List.getElem_toArray, List.getElem_cons_zero, List.getElem_cons_succ, Act.put, List.setIfInBounds_toArray, List.set_cons_zero, List.set_cons_succ]
            refine wpAnyH_take (i := 15) (v := ?_) rfl (by kernel_rfl) (by kernel_rfl) (by kernel_rfl) (fun _ _ _ h => h) (Or.inl ⟨by rfl, ?_⟩) (by assumption) ?_
            rotate_left
            · (intro W hSw; have hc := (hSw.cell (p := ⟨bw, 2, none⟩) hbw5).trans HA2.out; go_simp; try with_reducible rfl)
            simp only [List.getElem_toArray, List.getElem_cons_zero, List.getElem_cons_succ, Act.put, List.setIfInBounds_toArray, List.set_cons_zero, List.set_cons_succ]
            refine wpAnyH_take (i := 16) (v := .int .i64 (n : Int)) rfl (by kernel_rfl) (by kernel_rfl) (by kernel_rfl) (fun _ _ _ h => h) (Or.inl ⟨by rfl, ?_⟩) (by assumption) ?_
            · (intro W hSw; go_simp)
            simp only [List.getElem_toArray, List.getElem_cons_zero, List.getElem_cons_succ, Act.put, List.setIfInBounds_toArray, List.set_cons_zero, List.set_cons_succ]
            refine wpAnyH_take (i := 17) (v := .bool false) rfl (by kernel_rfl) (by kernel_rfl) (by kernel_rfl) (fun _ _ _ h => h) (Or.inl ⟨by rfl, ?_⟩) (by assumption) ?_
            · (intro W hSw; go_simp)
            simp only [List.getElem_toArray, List.getElem_cons_zero, List.getElem_cons_succ, Act.put, List.setIfInBounds_toArray, List.set_cons_zero, List.set_cons_succ]
            refine wpAnyH_take (i := 18) (v := ?_) rfl (by kernel_rfl) (by kernel_rfl) (by kernel_rfl) (fun _ _ _ h => h) (Or.inl ⟨by rfl, ?_⟩) (by assumption) ?_
            rotate_left
            · (intro W hSw; (try dsimp only at hSw); go_simp; try with_reducible rfl)
            simp only [List.getElem_toArray, List.getElem_cons_zero, List.getElem_cons_succ, Act.put, List.setIfInBounds_toArray, List.set_cons_zero, List.set_cons_succ]
            refine wpAnyH_take (i := 19) (v := ?_) rfl (by kernel_rfl) (by kernel_rfl) (by kernel_rfl) (fun _ _ _ h => h) (Or.inl ⟨by rfl, ?_⟩) (by assumption) ?_
            rotate_left
            · (intro W hSw; (try dsimp only at hSw); go_simp; try with_reducible rfl)
            simp only [List.getElem_toArray, List.getElem_cons_zero, List.getElem_cons_succ, Act.put, List.setIfInBounds_toArray, List.set_cons_zero, List.set_cons_succ]
            refine wpAnyH_take (i := 20) (v := ?_) rfl (by kernel_rfl) (by kernel_rfl) (by kernel_rfl) (fun _ _ _ h => h) (Or.inl ⟨by rfl, ?_⟩) (by assumption) ?_
            rotate_left
            · (intro W hSw; (try dsimp only at hSw); go_simp; try with_reducible rfl)
            simp only [List.getElem_toArray, List.getElem_cons_zero, List.getElem_cons_succ, Act.put, List.setIfInBounds_toArray, List.set_cons_zero, List.set_cons_succ]
            refine wpAnyH_take (i := 21) (v := ?_) rfl (by kernel_rfl) (by kernel_rfl) (by kernel_rfl) (fun _ _ _ h => h) (Or.inl ⟨by rfl, ?_⟩) (by assumption) ?_
            rotate_left
            · (intro W hSw; (try dsimp only at hSw); go_simp; try with_reducible rfl)
            simp only [List.getElem_toArray, List.getElem_cons_zero, List.getElem_cons_succ, Act.put, List.setIfInBounds_toArray, List.set_cons_zero, List.set_cons_succ]
            refine wpAnyH_take (i := 22) (v := ?_) rfl (by kernel_rfl) (by kernel_rfl) (by kernel_rfl) (fun _ _ _ h => h) (Or.inl ⟨by rfl, ?_⟩) (by assumption) ?_
            rotate_left
            · (intro W hSw; have hc := (hSw.cell (p := ⟨bn, 3, none⟩) hbn5).trans HB3.out; go_simp; try with_reducible rfl)
            simp only [List.getElem_toArray, List.getElem_cons_zero, List.getElem_cons_succ, Act.put, List.setIfInBounds_toArray, List.set_cons_zero, List.set_cons_succ]
            refine wpAnyH_take (i := 23) (v := .bool false) rfl (by kernel_rfl) (by kernel_rfl) (by kernel_rfl) (fun _ _ _ h => h) (Or.inl ⟨by rfl, ?_⟩) (by assumption) ?_
            · (intro W hSw; go_simp)
            simp only [List.getElem_toArray, List.getElem_cons_zero, List.getElem_cons_succ, Act.put, List.setIfInBounds_toArray, List.set_cons_zero, List.set_cons_succ]
            refine wpAnyH_take (i := 24) (v := ?_) rfl (by kernel_rfl) (by kernel_rfl) (by kernel_rfl) (fun _ _ _ h => h) (Or.inl ⟨by rfl, ?_⟩) (by assumption) ?_
            rotate_left
            · (intro W hSw; (try dsimp only at hSw); go_simp; try with_reducible rfl)
            simp only [List.getElem_toArray, List.getElem_cons_zero, List.getElem_cons_succ, Act.put, List.setIfInBounds_toArray, List.set_cons_zero, List.set_cons_succ]
            refine wpAnyH_take (i := 25) (v := ?_) rfl (by kernel_rfl) (by kernel_rfl) (by kernel_rfl) (fun _ _ _ h => h) (Or.inl ⟨by rfl, ?_⟩) (by assumption) ?_
            rotate_left
            · (intro W hSw; (try dsimp only at hSw); go_simp; try with_reducible rfl)
            simp only [List.getElem_toArray, List.getElem_cons_zero, List.getElem_cons_succ, Act.put, List.setIfInBounds_toArray, List.set_cons_zero, List.set_cons_succ]
            refine wpAnyH_take (i := 26) (v := ?_) rfl (by kernel_rfl) (by kernel_rfl) (by kernel_rfl) (fun _ _ _ h => h) (Or.inl ⟨by rfl, ?_⟩) (by assumption) ?_
            rotate_left
            · (intro W hSw; (try dsimp only at hSw); go_simp; try with_reducible rfl)
            simp only [List.getElem_toArray, List.getElem_cons_zero, List.getElem_cons_succ, Act.put, List.setIfInBounds_toArray, List.set_cons_zero, List.set_cons_succ]
            refine wpAnyH_take (i := 27) (v := ?_) rfl (by kernel_rfl) (by kernel_rfl) (by kernel_rfl) (fun _ _ _ h => h) (Or.inl ⟨by rfl, ?_⟩) (by assumption) ?_
            rotate_left
            · (intro W hSw; (try dsimp only at hSw); go_simp; try with_reducible rfl)
            simp only [List.getElem_toArray, List.getElem_cons_zero, List.getElem_cons_succ, Act.put, List.setIfInBounds_toArray, List.set_cons_zero, List.set_cons_succ]
            refine wpAnyH_take (i := 28) (v := ?_) rfl (by kernel_rfl) (by kernel_rfl) (by kernel_rfl) (fun _ _ _ h => h) (Or.inl ⟨by rfl, ?_⟩) (by assumption) ?_
            rotate_left
            · (intro W hSw; have hc := (hSw.cell (p := ⟨bn, 4, none⟩) hbn5).trans HB4.out; go_simp; try with_reducible rfl)
            simp only [List.getElem_toArray, List.getElem_cons_zero, List.getElem_cons_succ, Act.put, List.setIfInBounds_toArray, List.set_cons_zero, List.set_cons_succ]
            refine wpAnyH_take (i := 29) (v := .bool false) rfl (by kernel_rfl) (by kernel_rfl) (by kernel_rfl) (fun _ _ _ h => h) (Or.inl ⟨by rfl, ?_⟩) (by assumption) ?_
            · (intro W hSw; go_simp)
            simp only [List.getElem_toArray, List.getElem_cons_zero, List.getElem_cons_succ, Act.put, List.setIfInBounds_toArray, List.set_cons_zero, List.set_cons_succ]
            refine wpAnyH_take (i := 30) (v := ?_) rfl (by kernel_rfl) (by kernel_rfl) (by kernel_rfl) (fun _ _ _ h => h) (Or.inl ⟨by rfl, ?_⟩) (by assumption) ?_
            rotate_left
            · (intro W hSw; (try dsimp only at hSw); go_simp; try with_reducible rfl)
            simp only [List.getElem_toArray, List.getElem_cons_zero, List.getElem_cons_succ, Act.put, List.setIfInBounds_toArray, List.set_cons_zero, List.set_cons_succ]
            refine wpAnyH_take (i := 31) (v := ?_) rfl (by kernel_rfl) (by kernel_rfl) (by kernel_rfl) (fun _ _ _ h => h) (Or.inl ⟨by rfl, ?_⟩) (by assumption) ?_
            rotate_left
            · (intro W hSw; (try dsimp only at hSw); go_simp; try with_reducible rfl)
            simp only [List.getElem_toArray, List.getElem_cons_zero, List.getElem_cons_succ, Act.put, List.setIfInBounds_toArray, List.set_cons_zero, List.set_cons_succ]
            refine wpAnyH_take (i := 32) (v := ?_) rfl (by kernel_rfl) (by kernel_rfl) (by kernel_rfl) (fun _ _ _ h => h) (Or.inl ⟨by rfl, ?_⟩) (by assumption) ?_
            rotate_left
            · (intro W hSw; (try dsimp only at hSw); go_simp; try with_reducible rfl)
            simp only [List.getElem_toArray, List.getElem_cons_zero, List.getElem_cons_succ, Act.put, List.setIfInBounds_toArray, List.set_cons_zero, List.set_cons_succ]
            refine wpAnyH_take (i := 34) (v := ?_) rfl (by kernel_rfl) (by kernel_rfl) (by kernel_rfl) (fun _ _ _ h => h) (Or.inl ⟨by rfl, ?_⟩) (by assumption) ?_
            rotate_left
            · (intro W hSw; (try dsimp only at hSw); go_simp; try with_reducible rfl)
            simp only [List.getElem_toArray, List.getElem_cons_zero, List.getElem_cons_succ, Act.put, List.setIfInBounds_toArray, List.set_cons_zero, List.set_cons_succ]
            refine wpAnyH_take (i := 35) (v := ?_) rfl (by kernel_rfl) (by kernel_rfl) (by kernel_rfl) (fun _ _ _ h => h) (Or.inl ⟨by rfl, ?_⟩) (by assumption) ?_
            rotate_left
            · (intro W hSw; have hc := (hSw.cell (p := ⟨bn, 1, none⟩) hbn5).trans HB1.out; go_simp; try with_reducible rfl)
            simp only [List.getElem_toArray, List.getElem_cons_zero, List.getElem_cons_succ, Act.put, List.setIfInBounds_toArray, List.set_cons_zero, List.set_cons_succ]
            refine wpAnyH_ready (rs := [33]) (by kernel_rfl) (by simp) ?_
            refine AllReadyH.cons rfl (fun K hK => ?_) AllReadyH.nil
            go_simp
            refine (HTRL.out W4.drew (F5.out.dec.below cS)).mono ?_
            rintro e W5 ⟨tq, rfl, htq, b5⟩
            obtain ⟨qa, qn, qc, rfl⟩ : ∃ a n c, tq = .slice a n c := by
              obtain ⟨a, c, h, _⟩ := htq.shape
              exact ⟨a, _, c, h⟩
            have c5 : Below W4.heap.size W4 W5 := cS.trans (b5.mono cS.size)
            have HPF := hide (plainF_any W5 _ (.slice ya yn yc) (rdT m (all ++ b)) t (Flds.of_row htq) ((Flds.of_row TR5.out).below c5) (by have := HRL.out; omega) (by rw [HT.out]; have := HRL.out; omega))
            rw [decide_eq_true HT.out.symm] at HPF
            clear htq b5 cS BD
            (try go_wp2_with fail)
            refine hK.out _ _ c5 (fun hHeld => ?_)
            clear hK K
            try simp only [List.getElem_toArray, List.getElem_cons_zero, List.getElem_cons_succ, Act.put, List.setIfInBounds_toArray, List.set_cons_zero, List.set_cons_succ]
            refine wpAnyH_ready (rs := [36]) (by kernel_rfl) (by simp) ?_
            refine AllReadyH.cons rfl (fun K hK => ?_) AllReadyH.nil
            go_simp
            refine HPF.out.mono ?_
            rintro e W6 ⟨rfl, b6⟩
            have c6 : Below W4.heap.size W4 W6 := c5.trans (b6.mono c5.size)
            clear b6 HPF
            (try go_wp2_with fail)
            refine hK.out _ _ c6 (fun hHeld => ?_)
            clear hK K c5
            try simp only [List.getElem_toArray, List.getElem_cons_zero, List.getElem_cons_succ, Act.put, List.setIfInBounds_toArray, List.set_cons_zero, List.set_cons_succ]
            refine wpAnyH_take (i := 37) (v := ?_) rfl (by kernel_rfl) (by kernel_rfl) (by kernel_rfl) (fun _ _ _ h => h) (Or.inl ⟨by rfl, ?_⟩) (by assumption) ?_
            rotate_left
            · (intro W hSw; (try dsimp only at hSw); go_simp; try with_reducible rfl)
            simp only [List.getElem_toArray, List.getElem_cons_zero, List.getElem_cons_succ, Act.put, List.setIfInBounds_toArray, List.set_cons_zero, List.set_cons_succ]
            refine wpAnyH_take (i := 38) (v := ?_) rfl (by kernel_rfl) (by kernel_rfl) (by kernel_rfl) (fun _ _ _ h => h) (Or.inl ⟨by rfl, ?_⟩) (by assumption) ?_
            rotate_left
            · (intro W hSw; (try dsimp only at hSw); go_simp; try with_reducible rfl)
            simp only [List.getElem_toArray, List.getElem_cons_zero, List.getElem_cons_succ, Act.put, List.setIfInBounds_toArray, List.set_cons_zero, List.set_cons_succ]
            refine wpAnyH_done (by kernel_rfl) ?_ _
            clear hHeld
            clear hxp
            refine NoPanic.normal ?_
            have F6 := hide (F5.out.below c6)
            have b0 : W6.cell? ⟨bn, 0, none⟩ = some (.slice (some ⟨gx, 0, none⟩) o.length xc) := (c6.cell (p := ⟨bn, 0, none⟩) hbn5).trans HB0.out
            have b1 : W6.cell? ⟨bn, 1, none⟩ = some (.slice ya yn yc) := (c6.cell (p := ⟨bn, 1, none⟩) hbn5).trans HB1.out
            have b2 : W6.cell? ⟨bn, 2, none⟩ = some (.int .i64 (N : Int)) := (c6.cell (p := ⟨bn, 2, none⟩) hbn5).trans HB2.out
            have b3 : W6.cell? ⟨bn, 3, none⟩ = some (.bool wh) := (c6.cell (p := ⟨bn, 3, none⟩) hbn5).trans HB3.out
            have b4 : W6.cell? ⟨bn, 4, none⟩ = some (.int .i64 (E : Int)) := (c6.cell (p := ⟨bn, 4, none⟩) hbn5).trans HB4.out
            have a0 : W6.cell? ⟨bw, 0, none⟩ = some (.slice oa on0 oc) := F6.out.cell 0
            have f0 : W6.frozen? ⟨bw, 0, none⟩ = false := F6.out.froz 0
            have a1 : W6.cell? ⟨bw, 1, none⟩ = some (.slice ta tn tc) := F6.out.cell 1
            have f1 : W6.frozen? ⟨bw, 1, none⟩ = false := F6.out.froz 1
            have a2 : W6.cell? ⟨bw, 2, none⟩ = some (.int .i64 (n0 : Int)) := F6.out.cell 2
            have f2 : W6.frozen? ⟨bw, 2, none⟩ = false := F6.out.froz 2
            have a3 : W6.cell? ⟨bw, 3, none⟩ = some (.bool bh) := F6.out.cell 3
            have f3 : W6.frozen? ⟨bw, 3, none⟩ = false := F6.out.froz 3
            have a4 : W6.cell? ⟨bw, 4, none⟩ = some (.int .i64 ee) := F6.out.cell 4
            have f4 : W6.frozen? ⟨bw, 4, none⟩ = false := F6.out.froz 4
            clear c6 F5
            go_wp2_with fail
            have G0 : Hid (FS w (W6.setCell ⟨bw, 0, none⟩ (.slice (some ⟨gx, 0, none⟩) o.length xc)) bw lv' tv' (.slice na nn nc) (stD m (all ++ b)) (all ++ b) #[.slice (some ⟨gx, 0, none⟩) o.length xc, .slice ta tn tc, .int .i64 (n0 : Int), .bool bh, .int .i64 ee]) := hide (F6.out.set 0 (.slice (some ⟨gx, 0, none⟩) o.length xc))
            have G1 : Hid (FS w ((W6.setCell ⟨bw, 0, none⟩ (.slice (some ⟨gx, 0, none⟩) o.length xc)).setCell ⟨bw, 1, none⟩ (.slice ya yn yc)) bw lv' tv' (.slice na nn nc) (stD m (all ++ b)) (all ++ b) #[.slice (some ⟨gx, 0, none⟩) o.length xc, .slice ya yn yc, .int .i64 (n0 : Int), .bool bh, .int .i64 ee]) := hide (G0.out.set 1 (.slice ya yn yc))
            have G2 : Hid (FS w (((W6.setCell ⟨bw, 0, none⟩ (.slice (some ⟨gx, 0, none⟩) o.length xc)).setCell ⟨bw, 1, none⟩ (.slice ya yn yc)).setCell ⟨bw, 2, none⟩ (.int .i64 (N : Int))) bw lv' tv' (.slice na nn nc) (stD m (all ++ b)) (all ++ b) #[.slice (some ⟨gx, 0, none⟩) o.length xc, .slice ya yn yc, .int .i64 (N : Int), .bool bh, .int .i64 ee]) := hide (G1.out.set 2 (.int .i64 (N : Int)))
            have G3 : Hid (FS w ((((W6.setCell ⟨bw, 0, none⟩ (.slice (some ⟨gx, 0, none⟩) o.length xc)).setCell ⟨bw, 1, none⟩ (.slice ya yn yc)).setCell ⟨bw, 2, none⟩ (.int .i64 (N : Int))).setCell ⟨bw, 3, none⟩ (.bool wh)) bw lv' tv' (.slice na nn nc) (stD m (all ++ b)) (all ++ b) #[.slice (some ⟨gx, 0, none⟩) o.length xc, .slice ya yn yc, .int .i64 (N : Int), .bool wh, .int .i64 ee]) := hide (G2.out.set 3 (.bool wh))
            have G4 : Hid (FS w (((((W6.setCell ⟨bw, 0, none⟩ (.slice (some ⟨gx, 0, none⟩) o.length xc)).setCell ⟨bw, 1, none⟩ (.slice ya yn yc)).setCell ⟨bw, 2, none⟩ (.int .i64 (N : Int))).setCell ⟨bw, 3, none⟩ (.bool wh)).setCell ⟨bw, 4, none⟩ (.int .i64 (E : Int))) bw lv' tv' (.slice na nn nc) (stD m (all ++ b)) (all ++ b) #[.slice (some ⟨gx, 0, none⟩) o.length xc, .slice ya yn yc, .int .i64 (N : Int), .bool wh, .int .i64 (E : Int)]) := hide (G3.out.set 4 (.int .i64 (E : Int)))
            clear F6 G0 G1 G2 G3 b0 a0 f0 b1 a1 f1 b2 a2 f2 b3 a3 f3 b4 a4 f4
            generalize (((((W6.setCell ⟨bw, 0, none⟩ (.slice (some ⟨gx, 0, none⟩) o.length xc)).setCell ⟨bw, 1, none⟩ (.slice ya yn yc)).setCell ⟨bw, 2, none⟩ (.int .i64 (N : Int))).setCell ⟨bw, 3, none⟩ (.bool wh)).setCell ⟨bw, 4, none⟩ (.int .i64 (E : Int))) = W9 at G4 ⊢
            have GX : Hid (FS w W9 bw lv' tv' (.slice na nn nc) (stD m (all ++ b)) (all ++ b) #[.slice (some ⟨gx, 0, none⟩) (dBytes (dNew m) (all ++ b)).2.2.1.length xc, .slice ya yn yc, .int .i64 ((dBytes (dNew m) (all ++ b)).2.1 : Int), .bool wh, .int .i64 (E : Int)]) := hide (by rw [← HFO.out, ← hFN.out]; exact G4.out)
            clear G4
            go_wp2_with fail
            exact ⟨⟨k + 1, all ++ b, na, nn, nc, lv', tv', _, _, ya, yn, yc, wh, (E : Int), by omega, rfl, by go_num, HAL2, GX⟩, by simp [intOf]; omega⟩
          · have CV2 : Hid (∀ W, Below W4.heap.size W4 W → (convert 29 9 (.slice (some ⟨gx, on0, none⟩) (o.length - on0) (xc - on0))).run Tryd.prog W = .ok (.string ⟨ob.toArray⟩) W) := hide (fun W h => by
              have hx := (Bs.of_row (OR5.out.below h))
              have := conv_part (w := W) (g := gx) (o := 0) (c := xc - on0) (n := on0) (m := o.length) (l := o) (fun i hi => by
                obtain ⟨_, _, g', o', e', _, hh⟩ := hx.cellAt hi
                simp only [Option.some.injEq, Addr.mk.injEq] at e'
                obtain ⟨rfl, rfl, _⟩ := e'
                exact hh i hi) hol3 (Nat.le_refl _)
              rw [Nat.zero_add] at this
              rw [this, List.take_of_length_le (by rw [List.length_drop]; omega), HDR.out]
              rfl)
            generalize (⟨ob.toArray⟩ : ByteArray) = so at CV1 CV2
            have BD := hide ((Below.refl W4.heap.size W4).drew)
            have cS : Below W4.heap.size W4 W4.drew := BD.out
            refine wp_region_noPanic ?_
            refine wp_region_held_drew (S := fun W => Below W4.heap.size W4 W) (by kernel_rfl) cS (fun hHeld => ?_)
            refine wpAnyH_take (i := 0) (v := ?_) rfl (by kernel_rfl) (by kernel_rfl) (by kernel_rfl) (fun _ _ _ h => h) (Or.inl ⟨by rfl, ?_⟩) (by assumption) ?_
            rotate_left
            · (intro W hSw; (try dsimp only at hSw); go_simp; try with_reducible rfl)
            simp only [List.getElem_toArray, List.getElem_cons_zero, Act.put, List.setIfInBounds_toArray, List.set_cons_zero, List.set_cons_succ]
            refine wpAnyH_take (i := 1) (v := ?_) rfl (by kernel_rfl) (by kernel_rfl) (by kernel_rfl) (fun _ _ _ h => h) (Or.inl ⟨by rfl, ?_⟩) (by assumption) ?_
            rotate_left
            · (intro W hSw; have hc := CV1.out W hSw; go_simp; try with_reducible rfl)
            simp only [List.getElem_toArray, List.getElem_cons_zero, List.getElem_cons_succ, Act.put, List.setIfInBounds_toArray, List.set_cons_zero, List.set_cons_succ]
            refine wpAnyH_take (i := 2) (v := ?_) rfl (by kernel_rfl) (by kernel_rfl) (by kernel_rfl) (fun _ _ _ h => h) (Or.inl ⟨by rfl, ?_⟩) (by assumption) ?_
            rotate_left
            · (intro W hSw; (try dsimp only at hSw); go_simp; try with_reducible rfl)
            simp only [List.getElem_toArray, List.getElem_cons_zero, List.getElem_cons_succ, Act.put, List.setIfInBounds_toArray, List.set_cons_zero, List.set_cons_succ]
            refine wpAnyH_take (i := 3) (v := ?_) rfl (by kernel_rfl) (by kernel_rfl) (by kernel_rfl) (fun _ _ _ h => h) (Or.inl ⟨by rfl, ?_⟩) (by assumption) ?_
            rotate_left
            · (intro W hSw; have hc := (hSw.cell (p := ⟨bn, 0, none⟩) hbn5).trans HB0.out; go_simp; try with_reducible rfl)
            simp only [List.getElem_toArray, List.getElem_cons_zero, List.getElem_cons_succ, Act.put, List.setIfInBounds_toArray, List.set_cons_zero, List.set_cons_succ]
            refine wpAnyH_take (i := 4) (v := ?_) rfl (by kernel_rfl) (by kernel_rfl) (by kernel_rfl) (fun _ _ _ h => h) (Or.inl ⟨by rfl, ?_⟩) (by assumption) ?_
            rotate_left
            · (intro W hSw; (try dsimp only at hSw); go_simp; try with_reducible rfl)
            simp only [List.getElem_toArray, List.getElem_cons_zero, List.getElem_cons_succ, Act.put, List.setIfInBounds_toArray, List.set_cons_zero, List.set_cons_succ]
            refine wpAnyH_take (i := 5) (v := ?_) rfl (by kernel_rfl) (by kernel_rfl) (by kernel_rfl) (fun _ _ _ h => h) (Or.inl ⟨by rfl, ?_⟩) (by assumption) ?_
            rotate_left
            · (intro W hSw; have hc := (hSw.cell (p := ⟨bw, 0, none⟩) hbw5).trans HA0.out; go_simp; try with_reducible rfl)
            simp only [List.getElem_toArray, List.getElem_cons_zero, List.getElem_cons_succ, Act.put, List.setIfInBounds_toArray, List.set_cons_zero, List.set_cons_succ]
            refine wpAnyH_take (i := 6) (v := ?_) rfl (by kernel_rfl) (by kernel_rfl) (by kernel_rfl) (fun _ _ _ h => h) (Or.inl ⟨by rfl, ?_⟩) (by assumption) ?_
            rotate_left
            · (intro W hSw; (try dsimp only at hSw); go_simp; try with_reducible rfl)
            simp only [List.getElem_toArray, List.getElem_cons_zero, List.getElem_cons_succ, Act.put, List.setIfInBounds_toArray, List.set_cons_zero, List.set_cons_succ]
            refine wpAnyH_take (i := 7) (v := ?_) rfl (by kernel_rfl) (by kernel_rfl) (by kernel_rfl) (fun _ _ _ h => h) (Or.inl ⟨by rfl, ?_⟩) (by assumption) ?_
            rotate_left
            · (intro W hSw; (try dsimp only at hSw); go_simp; try with_reducible rfl)
            simp only [List.getElem_toArray, List.getElem_cons_zero, List.getElem_cons_succ, Act.put, List.setIfInBounds_toArray, List.set_cons_zero, List.set_cons_succ]
            refine wpAnyH_take (i := 8) (v := ?_) rfl (by kernel_rfl) (by kernel_rfl) (by kernel_rfl) (fun _ _ _ h => h) (Or.inl ⟨by rfl, ?_⟩) (by assumption) ?_
            rotate_left
            · (intro W hSw; have hc := CV2.out W hSw; go_simp; try with_reducible rfl)
            simp only [List.getElem_toArray, List.getElem_cons_zero, List.getElem_cons_succ, Act.put, List.setIfInBounds_toArray, List.set_cons_zero, List.set_cons_succ]
            refine wpAnyH_take (i := 9) (v := .bool false) rfl (by kernel_rfl) (by kernel_rfl) (by kernel_rfl) (fun _ _ _ h => h) (Or.inl ⟨by rfl, ?_⟩) (by assumption) ?_
            · (intro W hSw; go_simp)
            simp only [List.getElem_toArray, List.getElem_cons_zero, List.getElem_cons_succ, Act.put, List.setIfInBounds_toArray, List.set_cons_zero, List.set_cons_succ]
            refine wpAnyH_take (i := 10) (v := ?_) rfl (by kernel_rfl) (by kernel_rfl) (by kernel_rfl) (fun _ _ _ h => h) (Or.inl ⟨by rfl, ?_⟩) (by assumption) ?_
            rotate_left
            · (intro W hSw; (try dsimp only at hSw); go_simp; try with_reducible rfl)
            simp only [List.getElem_toArray, List.getElem_cons_zero, List.getElem_cons_succ, Act.put, List.setIfInBounds_toArray, List.set_cons_zero, List.set_cons_succ]
            refine wpAnyH_take (i := 11) (v := ?_) rfl (by kernel_rfl) (by kernel_rfl) (by kernel_rfl) (fun _ _ _ h => h) (Or.inl ⟨by rfl, ?_⟩) (by assumption) ?_
            rotate_left
            · (intro W hSw; (try dsimp only at hSw); go_simp; try with_reducible rfl)
            simp only [List.getElem_toArray, List.getElem_cons_zero, List.getElem_cons_succ, Act.put, List.setIfInBounds_toArray, List.set_cons_zero, List.set_cons_succ]
            refine wpAnyH_take (i := 12) (v := ?_) rfl (by kernel_rfl) (by kernel_rfl) (by kernel_rfl) (fun _ _ _ h => h) (Or.inl ⟨by rfl, ?_⟩) (by assumption) ?_
            rotate_left
            · (intro W hSw; (try dsimp only at hSw); go_simp; try with_reducible rfl)
            simp only [List.getElem_toArray, List.getElem_cons_zero, List.getElem_cons_succ, Act.put, List.setIfInBounds_toArray, List.set_cons_zero, List.set_cons_succ]
            refine wpAnyH_take (i := 13) (v := ?_) rfl (by kernel_rfl) (by kernel_rfl) (by kernel_rfl) (fun _ _ _ h => h) (Or.inl ⟨by rfl, ?_⟩) (by assumption) ?_
            rotate_left
            · (intro W hSw; have hc := (hSw.cell (p := ⟨bn, 2, none⟩) hbn5).trans HB2.out; go_simp; try with_reducible rfl)
            simp only [List.getElem_toArray, List.getElem_cons_zero, List.getElem_cons_succ, Act.put, List.setIfInBounds_toArray, List.set_cons_zero, List.set_cons_succ]
            refine wpAnyH_take (i := 14) (v := ?_) rfl (by kernel_rfl) (by kernel_rfl) (by kernel_rfl) (fun _ _ _ h => h) (Or.inl ⟨by rfl, ?_⟩) (by assumption) ?_
            rotate_left
            · (intro W hSw; (try dsimp only at hSw); go_simp; try with_reducible rfl)
            simp only [List.getElem_toArray, List.getElem_cons_zero, List.getElem_cons_succ, Act.put, List.setIfInBounds_toArray, List.set_cons_zero, List.set_cons_succ]
            refine wpAnyH_take (i := 15) (v := ?_) rfl (by kernel_rfl) (by kernel_rfl) (by kernel_rfl) (fun _ _ _ h => h) (Or.inl ⟨by rfl, ?_⟩) (by assumption) ?_
            rotate_left
            · (intro W hSw; have hc := (hSw.cell (p := ⟨bw, 2, none⟩) hbw5).trans HA2.out; go_simp; try with_reducible rfl)
            simp only [List.getElem_toArray, List.getElem_cons_zero, List.getElem_cons_succ, Act.put, List.setIfInBounds_toArray, List.set_cons_zero, List.set_cons_succ]
            refine wpAnyH_take (i := 16) (v := .int .i64 (n : Int)) rfl (by kernel_rfl) (by kernel_rfl) (by kernel_rfl) (fun _ _ _ h => h) (Or.inl ⟨by rfl, ?_⟩) (by assumption) ?_
            · (intro W hSw; go_simp)
            simp only [List.getElem_toArray, List.getElem_cons_zero, List.getElem_cons_succ, Act.put, List.setIfInBounds_toArray, List.set_cons_zero, List.set_cons_succ]
            refine wpAnyH_take (i := 17) (v := .bool false) rfl (by kernel_rfl) (by kernel_rfl) (by kernel_rfl) (fun _ _ _ h => h) (Or.inl ⟨by rfl, ?_⟩) (by assumption) ?_
            · (intro W hSw; go_simp)
            simp only [List.getElem_toArray, List.getElem_cons_zero, List.getElem_cons_succ, Act.put, List.setIfInBounds_toArray, List.set_cons_zero, List.set_cons_succ]
            refine wpAnyH_take (i := 18) (v := ?_) rfl (by kernel_rfl) (by kernel_rfl) (by kernel_rfl) (fun _ _ _ h => h) (Or.inl ⟨by rfl, ?_⟩) (by assumption) ?_
            rotate_left
            · (intro W hSw; (try dsimp only at hSw); go_simp; try with_reducible rfl)
            simp only [List.getElem_toArray, List.getElem_cons_zero, List.getElem_cons_succ, Act.put, List.setIfInBounds_toArray, List.set_cons_zero, List.set_cons_succ]
            refine wpAnyH_take (i := 19) (v := ?_) rfl (by kernel_rfl) (by kernel_rfl) (by kernel_rfl) (fun _ _ _ h => h) (Or.inl ⟨by rfl, ?_⟩) (by assumption) ?_
            rotate_left
            · (intro W hSw; (try dsimp only at hSw); go_simp; try with_reducible rfl)
            simp only [List.getElem_toArray, List.getElem_cons_zero, List.getElem_cons_succ, Act.put, List.setIfInBounds_toArray, List.set_cons_zero, List.set_cons_succ]
            refine wpAnyH_take (i := 20) (v := ?_) rfl (by kernel_rfl) (by kernel_rfl) (by kernel_rfl) (fun _ _ _ h => h) (Or.inl ⟨by rfl, ?_⟩) (by assumption) ?_
            rotate_left
            · (intro W hSw; (try dsimp only at hSw); go_simp; try with_reducible rfl)
            simp only [List.getElem_toArray, List.getElem_cons_zero, List.getElem_cons_succ, Act.put, List.setIfInBounds_toArray, List.set_cons_zero, List.set_cons_succ]
            refine wpAnyH_take (i := 21) (v := ?_) rfl (by kernel_rfl) (by kernel_rfl) (by kernel_rfl) (fun _ _ _ h => h) (Or.inl ⟨by rfl, ?_⟩) (by assumption) ?_
            rotate_left
            · (intro W hSw; (try dsimp only at hSw); go_simp; try with_reducible rfl)
            simp only [List.getElem_toArray, List.getElem_cons_zero, List.getElem_cons_succ, Act.put, List.setIfInBounds_toArray, List.set_cons_zero, List.set_cons_succ]
            refine wpAnyH_take (i := 22) (v := ?_) rfl (by kernel_rfl) (by kernel_rfl) (by kernel_rfl) (fun _ _ _ h => h) (Or.inl ⟨by rfl, ?_⟩) (by assumption) ?_
            rotate_left
            · (intro W hSw; have hc := (hSw.cell (p := ⟨bn, 3, none⟩) hbn5).trans HB3.out; go_simp; try with_reducible rfl)
            simp only [List.getElem_toArray, List.getElem_cons_zero, List.getElem_cons_succ, Act.put, List.setIfInBounds_toArray, List.set_cons_zero, List.set_cons_succ]
            refine wpAnyH_take (i := 23) (v := .bool false) rfl (by kernel_rfl) (by kernel_rfl) (by kernel_rfl) (fun _ _ _ h => h) (Or.inl ⟨by rfl, ?_⟩) (by assumption) ?_
            · (intro W hSw; go_simp)
            simp only [List.getElem_toArray, List.getElem_cons_zero, List.getElem_cons_succ, Act.put, List.setIfInBounds_toArray, List.set_cons_zero, List.set_cons_succ]
            refine wpAnyH_take (i := 24) (v := ?_) rfl (by kernel_rfl) (by kernel_rfl) (by kernel_rfl) (fun _ _ _ h => h) (Or.inl ⟨by rfl, ?_⟩) (by assumption) ?_
            rotate_left
            · (intro W hSw; (try dsimp only at hSw); go_simp; try with_reducible rfl)
            simp only [List.getElem_toArray, List.getElem_cons_zero, List.getElem_cons_succ, Act.put, List.setIfInBounds_toArray, List.set_cons_zero, List.set_cons_succ]
            refine wpAnyH_take (i := 25) (v := ?_) rfl (by kernel_rfl) (by kernel_rfl) (by kernel_rfl) (fun _ _ _ h => h) (Or.inl ⟨by rfl, ?_⟩) (by assumption) ?_
            rotate_left
            · (intro W hSw; (try dsimp only at hSw); go_simp; try with_reducible rfl)
            simp only [List.getElem_toArray, List.getElem_cons_zero, List.getElem_cons_succ, Act.put, List.setIfInBounds_toArray, List.set_cons_zero, List.set_cons_succ]
            refine wpAnyH_take (i := 26) (v := ?_) rfl (by kernel_rfl) (by kernel_rfl) (by kernel_rfl) (fun _ _ _ h => h) (Or.inl ⟨by rfl, ?_⟩) (by assumption) ?_
            rotate_left
            · (intro W hSw; (try dsimp only at hSw); go_simp; try with_reducible rfl)
            simp only [List.getElem_toArray, List.getElem_cons_zero, List.getElem_cons_succ, Act.put, List.setIfInBounds_toArray, List.set_cons_zero, List.set_cons_succ]
            refine wpAnyH_take (i := 27) (v := ?_) rfl (by kernel_rfl) (by kernel_rfl) (by kernel_rfl) (fun _ _ _ h => h) (Or.inl ⟨by rfl, ?_⟩) (by assumption) ?_
            rotate_left
            · (intro W hSw; (try dsimp only at hSw); go_simp; try with_reducible rfl)
            simp only [List.getElem_toArray, List.getElem_cons_zero, List.getElem_cons_succ, Act.put, List.setIfInBounds_toArray, List.set_cons_zero, List.set_cons_succ]
            refine wpAnyH_take (i := 28) (v := ?_) rfl (by kernel_rfl) (by kernel_rfl) (by kernel_rfl) (fun _ _ _ h => h) (Or.inl ⟨by rfl, ?_⟩) (by assumption) ?_
            rotate_left
            · (intro W hSw; have hc := (hSw.cell (p := ⟨bn, 4, none⟩) hbn5).trans HB4.out; go_simp; try with_reducible rfl)
            simp only [List.getElem_toArray, List.getElem_cons_zero, List.getElem_cons_succ, Act.put, List.setIfInBounds_toArray, List.set_cons_zero, List.set_cons_succ]
            refine wpAnyH_take (i := 29) (v := .bool false) rfl (by kernel_rfl) (by kernel_rfl) (by kernel_rfl) (fun _ _ _ h => h) (Or.inl ⟨by rfl, ?_⟩) (by assumption) ?_
            · (intro W hSw; go_simp)
            simp only [List.getElem_toArray, List.getElem_cons_zero, List.getElem_cons_succ, Act.put, List.setIfInBounds_toArray, List.set_cons_zero, List.set_cons_succ]
            refine wpAnyH_take (i := 30) (v := ?_) rfl (by kernel_rfl) (by kernel_rfl) (by kernel_rfl) (fun _ _ _ h => h) (Or.inl ⟨by rfl, ?_⟩) (by assumption) ?_
            rotate_left
            · (intro W hSw; (try dsimp only at hSw); go_simp; try with_reducible rfl)
            simp only [List.getElem_toArray, List.getElem_cons_zero, List.getElem_cons_succ, Act.put, List.setIfInBounds_toArray, List.set_cons_zero, List.set_cons_succ]
            refine wpAnyH_take (i := 31) (v := ?_) rfl (by kernel_rfl) (by kernel_rfl) (by kernel_rfl) (fun _ _ _ h => h) (Or.inl ⟨by rfl, ?_⟩) (by assumption) ?_
            rotate_left
            · (intro W hSw; (try dsimp only at hSw); go_simp; try with_reducible rfl)
            simp only [List.getElem_toArray, List.getElem_cons_zero, List.getElem_cons_succ, Act.put, List.setIfInBounds_toArray, List.set_cons_zero, List.set_cons_succ]
            refine wpAnyH_take (i := 32) (v := ?_) rfl (by kernel_rfl) (by kernel_rfl) (by kernel_rfl) (fun _ _ _ h => h) (Or.inl ⟨by rfl, ?_⟩) (by assumption) ?_
            rotate_left
            · (intro W hSw; (try dsimp only at hSw); go_simp; try with_reducible rfl)
            simp only [List.getElem_toArray, List.getElem_cons_zero, List.getElem_cons_succ, Act.put, List.setIfInBounds_toArray, List.set_cons_zero, List.set_cons_succ]
            refine wpAnyH_take (i := 34) (v := ?_) rfl (by kernel_rfl) (by kernel_rfl) (by kernel_rfl) (fun _ _ _ h => h) (Or.inl ⟨by rfl, ?_⟩) (by assumption) ?_
            rotate_left
            · (intro W hSw; (try dsimp only at hSw); go_simp; try with_reducible rfl)
            simp only [List.getElem_toArray, List.getElem_cons_zero, List.getElem_cons_succ, Act.put, List.setIfInBounds_toArray, List.set_cons_zero, List.set_cons_succ]
            refine wpAnyH_take (i := 35) (v := ?_) rfl (by kernel_rfl) (by kernel_rfl) (by kernel_rfl) (fun _ _ _ h => h) (Or.inl ⟨by rfl, ?_⟩) (by assumption) ?_
            rotate_left
            · (intro W hSw; have hc := (hSw.cell (p := ⟨bn, 1, none⟩) hbn5).trans HB1.out; go_simp; try with_reducible rfl)
            simp only [List.getElem_toArray, List.getElem_cons_zero, List.getElem_cons_succ, Act.put, List.setIfInBounds_toArray, List.set_cons_zero, List.set_cons_succ]
            refine wpAnyH_ready (rs := [33]) (by kernel_rfl) (by simp) ?_
            refine AllReadyH.cons rfl (fun K hK => ?_) AllReadyH.nil
            go_simp
            refine (HTRL.out W4.drew (F5.out.dec.below cS)).mono ?_
            rintro e W5 ⟨tq, rfl, htq, b5⟩
            obtain ⟨qa, qn, qc, rfl⟩ : ∃ a n c, tq = .slice a n c := by
              obtain ⟨a, c, h, _⟩ := htq.shape
              exact ⟨a, _, c, h⟩
            have c5 : Below W4.heap.size W4 W5 := cS.trans (b5.mono cS.size)
            have HPF := hide (plainF_any W5 _ (.slice ya yn yc) (rdT m (all ++ b)) t (Flds.of_row htq) ((Flds.of_row TR5.out).below c5) (by have := HRL.out; omega) (by rw [HT.out]; have := HRL.out; omega))
            rw [decide_eq_true HT.out.symm] at HPF
            clear htq b5 cS BD
            (try go_wp2_with fail)
            refine hK.out _ _ c5 (fun hHeld => ?_)
            clear hK K
            try simp only [List.getElem_toArray, List.getElem_cons_zero, List.getElem_cons_succ, Act.put, List.setIfInBounds_toArray, List.set_cons_zero, List.set_cons_succ]
            refine wpAnyH_ready (rs := [36]) (by kernel_rfl) (by simp) ?_
            refine AllReadyH.cons rfl (fun K hK => ?_) AllReadyH.nil
            go_simp
            refine HPF.out.mono ?_
            rintro e W6 ⟨rfl, b6⟩
            have c6 : Below W4.heap.size W4 W6 := c5.trans (b6.mono c5.size)
            clear b6 HPF
            (try go_wp2_with fail)
            refine hK.out _ _ c6 (fun hHeld => ?_)
            clear hK K c5
            try simp only [List.getElem_toArray, List.getElem_cons_zero, List.getElem_cons_succ, Act.put, List.setIfInBounds_toArray, List.set_cons_zero, List.set_cons_succ]
            refine wpAnyH_take (i := 37) (v := ?_) rfl (by kernel_rfl) (by kernel_rfl) (by kernel_rfl) (fun _ _ _ h => h) (Or.inl ⟨by rfl, ?_⟩) (by assumption) ?_
            rotate_left
            · (intro W hSw; (try dsimp only at hSw); go_simp; try with_reducible rfl)
            simp only [List.getElem_toArray, List.getElem_cons_zero, List.getElem_cons_succ, Act.put, List.setIfInBounds_toArray, List.set_cons_zero, List.set_cons_succ]
            refine wpAnyH_take (i := 38) (v := ?_) rfl (by kernel_rfl) (by kernel_rfl) (by kernel_rfl) (fun _ _ _ h => h) (Or.inl ⟨by rfl, ?_⟩) (by assumption) ?_
            rotate_left
            · (intro W hSw; (try dsimp only at hSw); go_simp; try with_reducible rfl)
            simp only [List.getElem_toArray, List.getElem_cons_zero, List.getElem_cons_succ, Act.put, List.setIfInBounds_toArray, List.set_cons_zero, List.set_cons_succ]
            refine wpAnyH_done (by kernel_rfl) ?_ _
            clear hHeld
            refine NoPanic.normal ?_
            have F6 := hide (F5.out.below c6)
            have b0 : W6.cell? ⟨bn, 0, none⟩ = some (.slice (some ⟨gx, 0, none⟩) o.length xc) := (c6.cell (p := ⟨bn, 0, none⟩) hbn5).trans HB0.out
            have b1 : W6.cell? ⟨bn, 1, none⟩ = some (.slice ya yn yc) := (c6.cell (p := ⟨bn, 1, none⟩) hbn5).trans HB1.out
            have b2 : W6.cell? ⟨bn, 2, none⟩ = some (.int .i64 (N : Int)) := (c6.cell (p := ⟨bn, 2, none⟩) hbn5).trans HB2.out
            have b3 : W6.cell? ⟨bn, 3, none⟩ = some (.bool wh) := (c6.cell (p := ⟨bn, 3, none⟩) hbn5).trans HB3.out
            have b4 : W6.cell? ⟨bn, 4, none⟩ = some (.int .i64 (E : Int)) := (c6.cell (p := ⟨bn, 4, none⟩) hbn5).trans HB4.out
            have a0 : W6.cell? ⟨bw, 0, none⟩ = some (.slice oa on0 oc) := F6.out.cell 0
            have f0 : W6.frozen? ⟨bw, 0, none⟩ = false := F6.out.froz 0
            have a1 : W6.cell? ⟨bw, 1, none⟩ = some (.slice ta tn tc) := F6.out.cell 1
            have f1 : W6.frozen? ⟨bw, 1, none⟩ = false := F6.out.froz 1
            have a2 : W6.cell? ⟨bw, 2, none⟩ = some (.int .i64 (n0 : Int)) := F6.out.cell 2
            have f2 : W6.frozen? ⟨bw, 2, none⟩ = false := F6.out.froz 2
            have a3 : W6.cell? ⟨bw, 3, none⟩ = some (.bool bh) := F6.out.cell 3
            have f3 : W6.frozen? ⟨bw, 3, none⟩ = false := F6.out.froz 3
            have a4 : W6.cell? ⟨bw, 4, none⟩ = some (.int .i64 ee) := F6.out.cell 4
            have f4 : W6.frozen? ⟨bw, 4, none⟩ = false := F6.out.froz 4
            clear c6 F5
            go_wp2_with fail
            have G0 : Hid (FS w (W6.setCell ⟨bw, 0, none⟩ (.slice (some ⟨gx, 0, none⟩) o.length xc)) bw lv' tv' (.slice na nn nc) (stD m (all ++ b)) (all ++ b) #[.slice (some ⟨gx, 0, none⟩) o.length xc, .slice ta tn tc, .int .i64 (n0 : Int), .bool bh, .int .i64 ee]) := hide (F6.out.set 0 (.slice (some ⟨gx, 0, none⟩) o.length xc))
            have G1 : Hid (FS w ((W6.setCell ⟨bw, 0, none⟩ (.slice (some ⟨gx, 0, none⟩) o.length xc)).setCell ⟨bw, 1, none⟩ (.slice ya yn yc)) bw lv' tv' (.slice na nn nc) (stD m (all ++ b)) (all ++ b) #[.slice (some ⟨gx, 0, none⟩) o.length xc, .slice ya yn yc, .int .i64 (n0 : Int), .bool bh, .int .i64 ee]) := hide (G0.out.set 1 (.slice ya yn yc))
            have G2 : Hid (FS w (((W6.setCell ⟨bw, 0, none⟩ (.slice (some ⟨gx, 0, none⟩) o.length xc)).setCell ⟨bw, 1, none⟩ (.slice ya yn yc)).setCell ⟨bw, 2, none⟩ (.int .i64 (N : Int))) bw lv' tv' (.slice na nn nc) (stD m (all ++ b)) (all ++ b) #[.slice (some ⟨gx, 0, none⟩) o.length xc, .slice ya yn yc, .int .i64 (N : Int), .bool bh, .int .i64 ee]) := hide (G1.out.set 2 (.int .i64 (N : Int)))
            have G3 : Hid (FS w ((((W6.setCell ⟨bw, 0, none⟩ (.slice (some ⟨gx, 0, none⟩) o.length xc)).setCell ⟨bw, 1, none⟩ (.slice ya yn yc)).setCell ⟨bw, 2, none⟩ (.int .i64 (N : Int))).setCell ⟨bw, 3, none⟩ (.bool wh)) bw lv' tv' (.slice na nn nc) (stD m (all ++ b)) (all ++ b) #[.slice (some ⟨gx, 0, none⟩) o.length xc, .slice ya yn yc, .int .i64 (N : Int), .bool wh, .int .i64 ee]) := hide (G2.out.set 3 (.bool wh))
            have G4 : Hid (FS w (((((W6.setCell ⟨bw, 0, none⟩ (.slice (some ⟨gx, 0, none⟩) o.length xc)).setCell ⟨bw, 1, none⟩ (.slice ya yn yc)).setCell ⟨bw, 2, none⟩ (.int .i64 (N : Int))).setCell ⟨bw, 3, none⟩ (.bool wh)).setCell ⟨bw, 4, none⟩ (.int .i64 (E : Int))) bw lv' tv' (.slice na nn nc) (stD m (all ++ b)) (all ++ b) #[.slice (some ⟨gx, 0, none⟩) o.length xc, .slice ya yn yc, .int .i64 (N : Int), .bool wh, .int .i64 (E : Int)]) := hide (G3.out.set 4 (.int .i64 (E : Int)))
            clear F6 G0 G1 G2 G3 b0 a0 f0 b1 a1 f1 b2 a2 f2 b3 a3 f3 b4 a4 f4
            generalize (((((W6.setCell ⟨bw, 0, none⟩ (.slice (some ⟨gx, 0, none⟩) o.length xc)).setCell ⟨bw, 1, none⟩ (.slice ya yn yc)).setCell ⟨bw, 2, none⟩ (.int .i64 (N : Int))).setCell ⟨bw, 3, none⟩ (.bool wh)).setCell ⟨bw, 4, none⟩ (.int .i64 (E : Int))) = W9 at G4 ⊢
            have GX : Hid (FS w W9 bw lv' tv' (.slice na nn nc) (stD m (all ++ b)) (all ++ b) #[.slice (some ⟨gx, 0, none⟩) (dBytes (dNew m) (all ++ b)).2.2.1.length xc, .slice ya yn yc, .int .i64 ((dBytes (dNew m) (all ++ b)).2.1 : Int), .bool wh, .int .i64 (E : Int)]) := hide (by rw [← HFO.out, ← hFN.out]; exact G4.out)
            clear G4
            go_wp2_with fail
            exact ⟨⟨k + 1, all ++ b, na, nn, nc, lv', tv', _, _, ya, yn, yc, wh, (E : Int), by omega, rfl, by go_num, HAL2, GX⟩, by simp [intOf]; omega⟩
      · go_wp2_with fail
        refine (speaks_any wr (HM.out.below F1.out.b) (HDB.out.below F1.out.b)).mono ?_
        rintro e w7 ⟨rfl, bb⟩
        have B8 := hide (F1.out.b.trans (bb.mono F1.out.b.size))
        clear bb
        go_wp2
        go_ret
        exact ⟨rfl, B8.out⟩
  · have HAS := hide (fun W => asked_no most W (by omega))
    have HNB := hide (new_bad most w (by omega))
    clear hask
    go_enter Tryd.func3, Tryd.ntmps3
    go_wp2_with fail
    refine HNB.out.mono ?_
    rintro e w1 ⟨rfl, rfl⟩
    go_wp2_with fail
    refine (HAS.out w).mono ?_
    rintro e w2 ⟨rfl, rfl⟩
    go_wp2_with fail
    refine (speaks_any w HM.out HDB.out).mono ?_
    rintro e w3 ⟨rfl, b3⟩
    have B3 := hide b3
    clear b3
    go_wp2
    go_ret
    exact ⟨rfl, B3.out⟩
end Go.Proofs.YthciahpadninpaaDoor
