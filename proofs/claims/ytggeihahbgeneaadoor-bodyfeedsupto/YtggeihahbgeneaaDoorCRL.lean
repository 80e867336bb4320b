/- The document's line and size. -/
import Derived.Test.YtggeihahbgeneaaDoorCLnP
import Derived.Test.YtggeihahbgeneaaDoorCOpen
namespace Go.Proofs.YtggeihahbgeneaaDoor
open Go.ChangeShapes Go.WideShapes Go.ChangeAt Go.RowKit

def lnX (b : List UInt8) (a : Nat) : ByteArray × Nat × Bool × Nat := match lineR [] false (b.drop a) with
  | none => (⟨#[]⟩, b.length, false, 0)
  | some (k, none) => (⟨#[]⟩, a + k, false, 100)
  | some (k, some s) => (sS s, a + k, true, 0)
theorem lnX_none {b : List UInt8} {a : Nat} (h : lineR [] false (b.drop a) = none) : lnX b a = (⟨#[]⟩, b.length, false, 0) := by unfold lnX; rw [h]
theorem lnX_bad {b : List UInt8} {a k : Nat} (h : lineR [] false (b.drop a) = some (k, none)) : lnX b a = (⟨#[]⟩, a + k, false, 100) := by unfold lnX; rw [h]
theorem lnX_line {b : List UInt8} {a k : Nat} {s : List UInt8} (h : lineR [] false (b.drop a) = some (k, some s)) : lnX b a = (sS s, a + k, true, 0) := by unfold lnX; rw [h]
theorem Bs.cellAt {w : World} {base : Nat} {a : Option Addr} {m c : Nat} {l : List UInt8} (h : Bs w base (.slice a m c) l) {j : Nat} (hj : j < l.length) : m = l.length ∧ l.length ≤ c ∧ ∃ g o, a = some ⟨g, o, none⟩ ∧ g < w.heap.size ∧ ∀ i (hi : i < l.length), w.cell? ⟨g, o + i, none⟩ = some (.int .u8 (l[i].toNat : Int)) := by
  obtain ⟨a', c', he, hc, hx⟩ := h
  simp only [Value.slice.injEq] at he
  obtain ⟨rfl, rfl, rfl⟩ := he
  obtain ⟨g, o, rfl, _, h3, _⟩ := hx j hj
  refine ⟨rfl, hc, g, o, rfl, h3, fun i hi => ?_⟩
  obtain ⟨g', o', h1, _, _, h4⟩ := hx i hi
  simp only [Option.some.injEq, Addr.mk.injEq] at h1
  obtain ⟨rfl, rfl, _⟩ := h1
  exact h4
theorem conv_part {w : World} {g o c n m : Nat} {l : List UInt8} (hx : ∀ i (hi : i < l.length), w.cell? ⟨g, o + i, none⟩ = some (.int .u8 (l[i].toNat : Int))) (h : n ≤ m) (hm : m ≤ l.length) : (convert 31 9 (.slice (some ⟨g, o + n, none⟩) (m - n) c)).run Tryd.prog w = .ok (.string (sS ((l.drop n).take (m - n)))) w := by
  have hl : ((l.drop n).take (m - n)).length = m - n := by rw [List.length_take, List.length_drop]; omega
  have := run_convert_bytes_back w 31 9 5 ⟨g, o + n, none⟩ c ((l.drop n).take (m - n)) Tryd.underlying31 Tryd.underlying5 Tryd.underlying9 (fun j hj => by
    have e : (⟨g, o + n, none⟩ : Addr).add j = ⟨g, o + (n + j), none⟩ := by unfold Addr.add; split <;> simp_all [Nat.add_assoc]
    rw [hl] at hj
    rw [e, hx (n + j) (by omega)]
    simp)
  rw [hl] at this
  exact this
theorem u8_ne {c : UInt8} {k : Nat} (hk : k < 256) (h : c ≠ UInt8.ofNat k) : ¬ (c.toNat : Int) = (k : Int) := fun e => h (UInt8.toNat_inj.1 (by rw [UInt8.toNat_ofNat']; omega))
set_option maxHeartbeats 4000000 in
theorem rline_any (v : Value) (b : List UInt8) (a : Nat) (w : World) (hB : Bs w w.heap.size v b) (ha : a ≤ b.length) (hl : b.length ≤ 70368744177664) :
    Calls Tryd.prog 23 #[v, .int .i64 (a : Int)] w fun e w' => e = .returned (.tuple #[.string (lnX b a).1, .int .i64 ((lnX b a).2.1 : Int), .bool (lnX b a).2.2.1, .int .i64 ((lnX b a).2.2.2 : Int)]) ∧ w = w' := by
  have HB := hide hB
  obtain ⟨va, vc, rfl, hvc, _⟩ := hB
  generalize hX : lnX b a = X
  have HX := hide hX
  clear hX
  go_enter Tryd.func23, Tryd.ntmps23
  go_wp2_with fail
  go_loop [8] (fun i => ∃ (k : Nat) (acc : List UInt8) (en : Bool), k ≤ b.length ∧ a ≤ k ∧ i = .int .i64 k ∧ Hid (LnAt b a k acc en)) (fun i => b.length - (intOf i).toNat)
  case atStart => exact ⟨a, [], false, ha, Nat.le_refl _, rfl, hide (LnAt.zero ha)⟩
  case round =>
    obtain ⟨k, acc, en, hk, hak, rfl, HL⟩ := hrel
    by_cases hlt : k < b.length
    · obtain ⟨_, _, g, o, rfl, _, hx⟩ := HB.out.cellAt hlt
      have HC := hide hx
      have r1 := hx k hlt
      have HS := hide (HL.out.step hlt)
      have hi1 : (k : Int) - 1 = ((k - 1 : Nat) : Int) ∨ k = 0 := by omega
      have HE := hide HL.out.ee
      have HN := hide HL.out.ne
      have hby := byte_lt b[k]
      generalize b[k] = x at r1 HS hby
      have fin : ∀ (X : ByteArray × Nat × Bool × Nat) (s : ByteArray) (n : Nat) (wh : Bool) (e : Nat), X = (s, n, wh, e) → (Ending.returned (.tuple #[.string s, .int .i64 (n : Int), .bool wh, .int .i64 (e : Int)]) = .returned (.tuple #[.string X.1, .int .i64 (X.2.1 : Int), .bool X.2.2.1, .int .i64 (X.2.2.2 : Int)])) := by rintro X s n wh e rfl; rfl
      have FIN := hide fin
      clear hx fin
      have e1 : ∀ m : Nat, m = k + 1 → (m : Int) = (k : Int) + 1 := by intro m hm; omega
      have E1 := hide e1
      clear e1
      cases en with
      | true =>
        have hlk := (HE.out rfl).1
        have hp13 := (HE.out rfl).2
        have hk1 : k - 1 < b.length := by omega
        have r0 := HC.out (k - 1) hk1
        rw [List.getElem?_eq_getElem hk1, Option.some.injEq] at hp13
        rw [hp13] at r0
        have hsub : (k : Int) - 1 = ((k - 1 : Nat) : Int) := by omega
        have r0' : w.cell? ⟨g, o + (k - 1), none⟩ = some (.int .u8 13) := r0
        clear r0 hp13 hi1 HE HN
        have t1 : (a : Int) < (k : Int) := by omega
        by_cases h10 : x = 10
        · have t10 : ((x.toNat : Int) == 10) = true := by rw [h10]; rfl
          have HR := hide (lnX_line (HS.out.2.1 rfl h10))
          have hcc : ¬ vc = a := by omega
          have CV := conv_part (c := vc - a) HC.out (n := a) (m := k - 1) (by omega) (by omega)
          have hsp : k - 1 - a = k - 1 - a := rfl
          clear HS h10
          go_wp2_with fail
          refine bodyPost_ret (v := .tuple #[.string (sS ((b.drop a).take (k - 1 - a))), .int .i64 ((k : Int) + 1), .bool true, .int .i64 0]) (by simp [results, Tryd.results23, go_sem]) rfl ⟨?_, rfl⟩
          have := FIN.out X (sS ((b.drop a).take (k - 1 - a))) (k + 1) true 0 (by rw [← HX.out, HR.out, show a + (k + 1 - a) = k + 1 by omega])
          exact this
        · have t10 : ((x.toNat : Int) == 10) = false := beq_eq_false_iff_ne.2 (u8_ne (k := 10) (by decide) h10)
          have HR := hide (lnX_bad (HS.out.1 (by rw [decide_eq_false h10]; decide)))
          clear HS h10
          go_wp2_with fail
          refine bodyPost_ret (v := .tuple #[.string ⟨#[]⟩, .int .i64 ((k : Int) + 1), .bool false, .int .i64 100]) (by simp [results, Tryd.results23, go_sem]) rfl ⟨?_, rfl⟩
          exact FIN.out X ⟨#[]⟩ (k + 1) false 100 (by rw [← HX.out, HR.out, show a + (k + 1 - a) = k + 1 by omega])
      | false =>
        have hpre : a = k ∧ True ∨ a < k ∧ ∃ (hk1 : k - 1 < b.length), b[k - 1] ≠ 13 := by
          rcases Nat.lt_or_ge a k with h | h
          · right
            have hk1 : k - 1 < b.length := by omega
            refine ⟨h, hk1, fun e => HN.out rfl h ?_⟩
            rw [List.getElem?_eq_getElem hk1, e]
          · exact .inl ⟨by omega, trivial⟩
        have HPRE := hide hpre
        clear hpre HE HN hi1
        rcases HPRE.out with ⟨he, _⟩ | ⟨hlk, hk1, hn13⟩
        · have t1 : ¬ (a : Int) < (k : Int) := by omega
          clear HPRE he
          by_cases h10 : x = 10
          · have t10 : ((x.toNat : Int) == 10) = true := by rw [h10]; rfl
            have HR := hide (lnX_bad (HS.out.1 (by rw [decide_eq_true h10]; decide)))
            clear HS h10
            go_wp2_with fail
            refine bodyPost_ret (v := .tuple #[.string ⟨#[]⟩, .int .i64 ((k : Int) + 1), .bool false, .int .i64 100]) (by simp [results, Tryd.results23, go_sem]) rfl ⟨?_, rfl⟩
            exact FIN.out X ⟨#[]⟩ (k + 1) false 100 (by rw [← HX.out, HR.out, show a + (k + 1 - a) = k + 1 by omega])
          · have t10 : ((x.toNat : Int) == 10) = false := beq_eq_false_iff_ne.2 (u8_ne (k := 10) (by decide) h10)
            by_cases h13 : x = 13
            · have t13 : ((x.toNat : Int) != 13) = false := by rw [h13]; rfl
              have HL2 := hide (HS.out.2.2.1 rfl h10 h13)
              clear HS h10 h13
              go_wp2_with fail
              exact ⟨⟨k + 1, acc, true, by omega, by omega, by go_num, HL2⟩, by simp [intOf]; omega⟩
            · have t13 : ((x.toNat : Int) != 13) = true := bne_iff_ne.2 (u8_ne (k := 13) (by decide) h13)
              have hsb : (k : Int) - (a : Int) = ((k - a : Nat) : Int) := by omega
              by_cases h8 : 8192 ≤ k - a
              · have t8 : (8192 : Int) ≤ ((k - a : Nat) : Int) := by omega
                have HR := hide (lnX_bad (HS.out.2.2.2.1 rfl h10 h13 h8))
                clear HS h10 h13 h8
                go_wp2_with fail
                refine bodyPost_ret (v := .tuple #[.string ⟨#[]⟩, .int .i64 ((k : Int) + 1), .bool false, .int .i64 100]) (by simp [results, Tryd.results23, go_sem]) rfl ⟨?_, rfl⟩
                exact FIN.out X ⟨#[]⟩ (k + 1) false 100 (by rw [← HX.out, HR.out, show a + (k + 1 - a) = k + 1 by omega])
              · have t8 : ¬ (8192 : Int) ≤ ((k - a : Nat) : Int) := by omega
                have HL2 := hide (HS.out.2.2.2.2 rfl h10 h13 h8)
                clear HS h10 h13 h8
                go_wp2_with fail
                exact ⟨⟨k + 1, _, false, by omega, by omega, by go_num, HL2⟩, by simp [intOf]; omega⟩
        · have t1 : (a : Int) < (k : Int) := by omega
          have r0 := HC.out (k - 1) hk1
          have hsub : (k : Int) - 1 = ((k - 1 : Nat) : Int) := by omega
          have hb0 := byte_lt b[k - 1]
          generalize b[k - 1] = y at r0 hn13 hb0
          have t0 : ((y.toNat : Int) == 13) = false := beq_eq_false_iff_ne.2 (u8_ne (k := 13) (by decide) hn13)
          clear HPRE hn13
          by_cases h10 : x = 10
          · have t10 : ((x.toNat : Int) == 10) = true := by rw [h10]; rfl
            have HR := hide (lnX_bad (HS.out.1 (by rw [decide_eq_true h10]; decide)))
            clear HS h10
            go_wp2_with fail
            refine bodyPost_ret (v := .tuple #[.string ⟨#[]⟩, .int .i64 ((k : Int) + 1), .bool false, .int .i64 100]) (by simp [results, Tryd.results23, go_sem]) rfl ⟨?_, rfl⟩
            exact FIN.out X ⟨#[]⟩ (k + 1) false 100 (by rw [← HX.out, HR.out, show a + (k + 1 - a) = k + 1 by omega])
          · have t10 : ((x.toNat : Int) == 10) = false := beq_eq_false_iff_ne.2 (u8_ne (k := 10) (by decide) h10)
            by_cases h13 : x = 13
            · have t13 : ((x.toNat : Int) != 13) = false := by rw [h13]; rfl
              have HL2 := hide (HS.out.2.2.1 rfl h10 h13)
              clear HS h10 h13
              go_wp2_with fail
              exact ⟨⟨k + 1, acc, true, by omega, by omega, by go_num, HL2⟩, by simp [intOf]; omega⟩
            · have t13 : ((x.toNat : Int) != 13) = true := bne_iff_ne.2 (u8_ne (k := 13) (by decide) h13)
              have hsb : (k : Int) - (a : Int) = ((k - a : Nat) : Int) := by omega
              by_cases h8 : 8192 ≤ k - a
              · have t8 : (8192 : Int) ≤ ((k - a : Nat) : Int) := by omega
                have HR := hide (lnX_bad (HS.out.2.2.2.1 rfl h10 h13 h8))
                clear HS h10 h13 h8
                go_wp2_with fail
                refine bodyPost_ret (v := .tuple #[.string ⟨#[]⟩, .int .i64 ((k : Int) + 1), .bool false, .int .i64 100]) (by simp [results, Tryd.results23, go_sem]) rfl ⟨?_, rfl⟩
                exact FIN.out X ⟨#[]⟩ (k + 1) false 100 (by rw [← HX.out, HR.out, show a + (k + 1 - a) = k + 1 by omega])
              · have t8 : ¬ (8192 : Int) ≤ ((k - a : Nat) : Int) := by omega
                have HL2 := hide (HS.out.2.2.2.2 rfl h10 h13 h8)
                clear HS h10 h13 h8
                go_wp2_with fail
                exact ⟨⟨k + 1, _, false, by omega, by omega, by go_num, HL2⟩, by simp [intOf]; omega⟩
    · obtain rfl : k = b.length := by omega
      have HR := hide (lnX_none HL.out.stop)
      clear hlt hk
      go_wp2_with fail
      refine bodyPost_ret (v := .tuple #[.string ⟨#[]⟩, .int .i64 (b.length : Int), .bool false, .int .i64 0]) (by simp [results, Tryd.results23, go_sem]) rfl ⟨?_, rfl⟩
      rw [← HX.out, HR.out]
      rfl
theorem k2_list (c : UInt8) (s : ByteArray) : (k2 c s).data.toList = s.data.toList.drop ((k1 c s).size + 1) ∧ (k1 c s).size ≤ s.size ∧ ((h : (k1 c s).size < s.size) → s[(k1 c s).size] = c) := by
  unfold k1 k2
  rw [sS_list, sS_size]
  rcases cu_form c s.data.toList with h | ⟨a, b, e, h⟩
  · rw [(cu_no h).1, (cu_no h).2.1, size_len]
    refine ⟨?_, Nat.le_refl _, fun h2 => by omega⟩
    rw [List.drop_of_length_le (by rw [size_len]; omega)]
  · have hsz := size_len s
    rw [e] at hsz ⊢
    rw [(cu_yes h).1, (cu_yes h).2.1]
    refine ⟨by simp, by rw [← hsz]; simp, fun h2 => ?_⟩
    have h3 : s.data.toList[a.length]? = some c := by rw [e]; simp
    rw [List.getElem?_eq_getElem (by rw [size_len]; exact h2), Option.some.injEq] at h3
    exact h3
theorem k2_no {s : ByteArray} {j : Nat} (h : j < s.size) (h1 : (k1 59 s).size ≤ j) (h2 : valc s[j] = false) : (k2 59 s).data.toList.all valc = false := by
  obtain ⟨e1, e2, e3⟩ := k2_list 59 s
  rcases Nat.eq_or_lt_of_le h1 with h3 | h3
  · subst h3
    rw [e3 h] at h2
    exact absurd h2 (by decide)
  · rw [e1, Bool.eq_false_iff]
    intro ha
    rw [List.all_eq_true] at ha
    have hm : s[j] ∈ s.data.toList.drop ((k1 59 s).size + 1) := by
      rw [List.mem_iff_getElem?]
      refine ⟨j - ((k1 59 s).size + 1), ?_⟩
      rw [List.getElem?_drop, show (k1 59 s).size + 1 + (j - ((k1 59 s).size + 1)) = j by omega, List.getElem?_eq_getElem (by rw [size_len]; exact h)]
      rfl
    have := ha _ hm
    rw [h2] at this
    cases this
theorem k2_yes {s : ByteArray} (h : ∀ (j : Nat) (h : j < s.size), (k1 59 s).size ≤ j → valc s[j] = true) : (k2 59 s).data.toList.all valc = true := by
  obtain ⟨e1, e2, e3⟩ := k2_list 59 s
  rw [e1, List.all_eq_true]
  intro x hx
  rw [List.mem_iff_getElem?] at hx
  obtain ⟨i, hi⟩ := hx
  rw [List.getElem?_drop, List.getElem?_eq_some_iff] at hi
  obtain ⟨h1, h2⟩ := hi
  rw [size_len] at h1
  rw [← h2]
  exact h _ h1 (by omega)
def szI (s : ByteArray) : Int := match sizeV s with
  | none => -1
  | some n => (n : Int)
set_option maxHeartbeats 4000000 in
theorem rsize_any (s : ByteArray) (w : World) (hs : s.size ≤ 65536) :
    Calls Tryd.prog 24 #[.string s] w fun e w' => e = .returned (.int .i64 (szI s)) ∧ w = w' := by
  have z1 := k1_size 59 s
  have HD := hide (fun W => rnumber_16 (k1 59 s) W (by unfold maxLen; omega))
  generalize hI : szI s = I
  unfold szI sizeV at hI
  have hnt : numV 16 (k1 59 s).data.toList ≤ 9007199254740992 := by
    unfold numV
    split
    · omega
    · rename_i hh
      rw [not_or, not_or] at hh
      have := hh.2.2
      unfold top at this
      omega
  have HI := hide hI
  clear hI
  have hm : (k1 59 s).size ≤ s.size := z1
  have HVS : Hid (∀ (j : Nat) (h : j < s.size), (k1 59 s).size ≤ j → valc s[j] = false → (k2 59 s).data.toList.all valc = false) := hide (fun j h h1 h2 => k2_no h h1 h2)
  have HVA : Hid ((∀ (j : Nat) (h : j < s.size), (k1 59 s).size ≤ j → valc s[j] = true) → (k2 59 s).data.toList.all valc = true) := hide k2_yes
  go_enter Tryd.func24, Tryd.ntmps24
  go_wp2_with fail
  go_loop [3, 4] (fun d i => ∃ k : Nat, k ≤ s.size ∧ d = .string s ∧ i = .int .i64 k ∧ Hid (∀ x ∈ s.data.toList.take k, x ≠ 59)) (fun _ i => s.size - (intOf i).toNat)
  case atStart => exact ⟨0, Nat.zero_le _, rfl, rfl, hide (fun x hx => by simp at hx)⟩
  case round =>
    obtain ⟨k, hk, rfl, rfl, HN⟩ := hrel
    by_cases hlt : k < s.size
    · have HTS := hide (take_snoc s k hlt)
      have hlen : k < s.data.toList.length := by rw [size_len]; exact hlt
      have hby := byte_lt s[k]
      by_cases he : s[k] = 59
      · have t1 : ((s[k].toNat : Int) == 59) = true := by rw [he]; rfl
        have HC := hide (cu_at (c := 59) hlen HN.out (by rw [← he]; rfl))
        have E1 : k1 59 s = s.extract 0 k := data_inj (by unfold k1; rw [sS_list, HC.out.1, ext_list, List.drop_zero, Nat.sub_zero])
        have HM : Hid ((k1 59 s).size = k) := hide (by rw [E1, ext_size]; omega)
        have HEX := hide E1
        clear he HTS E1 HC
        obtain ⟨m, hmm⟩ : ∃ m, (k1 59 s).size = m := ⟨_, rfl⟩
        rw [hmm] at HVS HVA hm HM
        obtain rfl := HM.out
        clear hmm
        go_wp2_with fail
        rw [← HEX.out]
        go_loop [5] (fun i => ∃ k : Nat, m ≤ k ∧ k ≤ s.size ∧ i = .int .i64 k ∧ Hid (∀ (j : Nat) (h : j < s.size), m ≤ j → j < k → valc s[j] = true)) (fun i => s.size - (intOf i).toNat)
        case atStart => exact ⟨m, Nat.le_refl _, hm, rfl, hide (fun j _ h1 h2 => by omega)⟩
        case round =>
          obtain ⟨k, hmk, hk, rfl, HA⟩ := hrel
          by_cases hlt : k < s.size
          · have hby := byte_lt s[k]
            have HV := hide (HVS.out k hlt)
            have HA2 : Hid (valc s[k] = true → ∀ (j : Nat) (h : j < s.size), m ≤ j → j < k + 1 → valc s[j] = true) := hide (fun hv j h h1 h2 => by
              rcases Nat.lt_or_ge j k with h3 | h3
              · exact HA.out j h h1 h3
              · obtain rfl : j = k := by omega
                exact hv)
            by_cases hv : valc s[k] = true
            · have HA3 := hide (HA2.out hv)
              have hv2 := hv
              unfold valc at hv2
              simp only [Bool.or_eq_true, Bool.and_eq_true, decide_eq_true_eq, Bool.not_eq_true', decide_eq_false_iff_not] at hv2
              have t3 : ((s[k].toNat : Int) == 127) = false := beq_eq_false_iff_ne.2 (by omega)
              by_cases h32 : s[k].toNat < 32
              · have t1 : (s[k].toNat : Int) < 32 := by omega
                have t2 : ((s[k].toNat : Int) != 9) = false := by rw [bne_eq_false_iff_eq]; omega
                clear hv hv2 HA2 HV h32
                go_wp2_with fail
                exact ⟨⟨k + 1, by omega, by omega, by go_num, HA3⟩, by simp [intOf]; omega⟩
              · have t1 : ¬ (s[k].toNat : Int) < 32 := by omega
                clear hv hv2 HA2 HV h32
                go_wp2_with fail
                exact ⟨⟨k + 1, by omega, by omega, by go_num, HA3⟩, by simp [intOf]; omega⟩
            · have HB := hide (HV.out hmk (by simpa using hv))
              have hv2 := hv
              unfold valc at hv2
              simp only [Bool.or_eq_true, Bool.and_eq_true, decide_eq_true_eq, Bool.not_eq_true', decide_eq_false_iff_not] at hv2
              by_cases h32 : s[k].toNat < 32
              · have t1 : (s[k].toNat : Int) < 32 := by omega
                have t2 : ((s[k].toNat : Int) != 9) = true := bne_iff_ne.2 (by omega)
                clear hv hv2 HA2 HV h32
                go_wp2_with fail
                go_ret
                exact ⟨ret_int (by rw [← HI.out, if_pos (.inr HB.out)]), rfl⟩
              · have t1 : ¬ (s[k].toNat : Int) < 32 := by omega
                have t3 : ((s[k].toNat : Int) == 127) = true := beq_iff_eq.2 (by omega)
                clear hv hv2 HA2 HV h32
                go_wp2_with fail
                go_ret
                exact ⟨ret_int (by rw [← HI.out, if_pos (.inr HB.out)]), rfl⟩
          · obtain rfl : k = s.size := by omega
            have HB := hide (HVA.out fun j h h1 => HA.out j h h1 h)
            clear hlt hk
            go_wp2_with fail
            refine (HD.out w).mono ?_
            rintro e w' ⟨rfl, rfl⟩
            by_cases hne : numE 16 (k1 59 s).data.toList = 0
            · have t0 : ((numE 16 (k1 59 s).data.toList : Int) != 0) = false := by rw [bne_eq_false_iff_eq]; omega
              have HF : Hid ((numV 16 (k1 59 s).data.toList : Int) = I) := hide (by rw [← HI.out, if_neg (by rw [HB.out]; simp [hne])])
              clear hne
              generalize numE 16 (k1 59 s).data.toList = ne at t0 ⊢
              generalize numV 16 (k1 59 s).data.toList = nv at HF hnt ⊢
              go_wp2_with fail
              go_ret
              exact ⟨ret_int HF.out, rfl⟩
            · have t0 : ((numE 16 (k1 59 s).data.toList : Int) != 0) = true := bne_iff_ne.2 (by omega)
              have HF : Hid ((-1 : Int) = I) := hide (by rw [← HI.out, if_pos (.inl hne)])
              clear hne
              generalize numE 16 (k1 59 s).data.toList = ne at t0 ⊢
              generalize numV 16 (k1 59 s).data.toList = nv at hnt ⊢
              go_wp2_with fail
              go_ret
              exact ⟨ret_int HF.out, rfl⟩
      · have t1 : ((s[k].toNat : Int) == 59) = false := beq_eq_false_iff_ne.2 (u8_ne (k := 59) (by decide) he)
        have HN2 : Hid (∀ x ∈ s.data.toList.take (k + 1), x ≠ 59) := hide (fun x hx => by
          rw [HTS.out, List.mem_append] at hx
          rcases hx with h1 | h1
          · exact HN.out x h1
          · simp only [List.mem_singleton] at h1
            rw [h1]; exact he)
        clear he HTS
        go_wp2_with fail
        exact ⟨⟨k + 1, by omega, rfl, by go_num, HN2⟩, by simp [intOf]; omega⟩
    · have HC := hide (cu_no (c := 59) (by have := HN.out; rw [take_all s k (by omega)] at this; exact this))
      have HEX : Hid (k1 59 s = s) := hide (data_inj (by unfold k1; rw [sS_list, HC.out.1]))
      have HM : Hid ((k1 59 s).size = s.size) := hide (by rw [HEX.out])
      obtain rfl : k = s.size := by omega
      clear HC hlt hk
      obtain ⟨m, hmm⟩ : ∃ m, (k1 59 s).size = m := ⟨_, rfl⟩
      rw [hmm] at HVS HVA hm HM
      rw [HEX.out] at HD HI hnt
      have hm2 : s.size ≤ m := by have := HM.out; omega
      clear hmm HEX z1 HN HM
      go_wp2_with fail
      go_loop [5] (fun i => ∃ k : Nat, m ≤ k ∧ k ≤ s.size ∧ i = .int .i64 k ∧ Hid (∀ (j : Nat) (h : j < s.size), m ≤ j → j < k → valc s[j] = true)) (fun i => s.size - (intOf i).toNat)
      case atStart => exact ⟨m, Nat.le_refl _, hm, by rw [Nat.le_antisymm hm hm2], hide (fun j _ h1 h2 => by omega)⟩
      case round =>
        obtain ⟨k, hmk, hk, rfl, HA⟩ := hrel
        by_cases hlt : k < s.size
        · have hby := byte_lt s[k]
          have HV := hide (HVS.out k hlt)
          have HA2 : Hid (valc s[k] = true → ∀ (j : Nat) (h : j < s.size), m ≤ j → j < k + 1 → valc s[j] = true) := hide (fun hv j h h1 h2 => by
            rcases Nat.lt_or_ge j k with h3 | h3
            · exact HA.out j h h1 h3
            · obtain rfl : j = k := by omega
              exact hv)
          by_cases hv : valc s[k] = true
          · have HA3 := hide (HA2.out hv)
            have hv2 := hv
            unfold valc at hv2
            simp only [Bool.or_eq_true, Bool.and_eq_true, decide_eq_true_eq, Bool.not_eq_true', decide_eq_false_iff_not] at hv2
            have t3 : ((s[k].toNat : Int) == 127) = false := beq_eq_false_iff_ne.2 (by omega)
            by_cases h32 : s[k].toNat < 32
            · have t1 : (s[k].toNat : Int) < 32 := by omega
              have t2 : ((s[k].toNat : Int) != 9) = false := by rw [bne_eq_false_iff_eq]; omega
              clear hv hv2 HA2 HV h32
              go_wp2_with fail
              exact ⟨⟨k + 1, by omega, by omega, by go_num, HA3⟩, by simp [intOf]; omega⟩
            · have t1 : ¬ (s[k].toNat : Int) < 32 := by omega
              clear hv hv2 HA2 HV h32
              go_wp2_with fail
              exact ⟨⟨k + 1, by omega, by omega, by go_num, HA3⟩, by simp [intOf]; omega⟩
          · have HB := hide (HV.out hmk (by simpa using hv))
            have hv2 := hv
            unfold valc at hv2
            simp only [Bool.or_eq_true, Bool.and_eq_true, decide_eq_true_eq, Bool.not_eq_true', decide_eq_false_iff_not] at hv2
            by_cases h32 : s[k].toNat < 32
            · have t1 : (s[k].toNat : Int) < 32 := by omega
              have t2 : ((s[k].toNat : Int) != 9) = true := bne_iff_ne.2 (by omega)
              clear hv hv2 HA2 HV h32
              go_wp2_with fail
              go_ret
              exact ⟨ret_int (by rw [← HI.out, if_pos (.inr HB.out)]), rfl⟩
            · have t1 : ¬ (s[k].toNat : Int) < 32 := by omega
              have t3 : ((s[k].toNat : Int) == 127) = true := beq_iff_eq.2 (by omega)
              clear hv hv2 HA2 HV h32
              go_wp2_with fail
              go_ret
              exact ⟨ret_int (by rw [← HI.out, if_pos (.inr HB.out)]), rfl⟩
        · obtain rfl : k = s.size := by omega
          have HB := hide (HVA.out fun j h h1 => HA.out j h h1 h)
          clear hlt hk
          go_wp2_with fail
          refine (HD.out w).mono ?_
          rintro e w' ⟨rfl, rfl⟩
          by_cases hne : numE 16 s.data.toList = 0
          · have t0 : ((numE 16 s.data.toList : Int) != 0) = false := by rw [bne_eq_false_iff_eq]; omega
            have HF : Hid ((numV 16 s.data.toList : Int) = I) := hide (by rw [← HI.out, if_neg (by rw [HB.out]; simp [hne])])
            clear hne
            generalize numE 16 s.data.toList = ne at t0 ⊢
            generalize numV 16 s.data.toList = nv at HF hnt ⊢
            go_wp2_with fail
            go_ret
            exact ⟨ret_int HF.out, rfl⟩
          · have t0 : ((numE 16 s.data.toList : Int) != 0) = true := bne_iff_ne.2 (by omega)
            have HF : Hid ((-1 : Int) = I) := hide (by rw [← HI.out, if_pos (.inl hne)])
            clear hne
            generalize numE 16 s.data.toList = ne at t0 ⊢
            generalize numV 16 s.data.toList = nv at hnt ⊢
            go_wp2_with fail
            go_ret
            exact ⟨ret_int HF.out, rfl⟩
end Go.Proofs.YtggeihahbgeneaaDoor
