/- QH: CRL CRT CTrs CWr CWr2 CWrW. -/
import Derived.Test.YthciahpadninpaaDoorQF
import Derived.Test.YthciahpadninpaaDoorQG
import Derived.Test.YthciahpadninpaaDoorQC
import Derived.Lib.AppendStr
import Derived.Test.YthciahpadninpaaDoorQE
import Derived.Deep.RegionHeld3
/- The document's line and size. -/
namespace Go.Proofs.YthciahpadninpaaDoor
open Go.ChangeShapes Go.WideShapes Go.ChangeAt Go.RowKit

def lnX (b : List UInt8) (a : Nat) : ByteArray × Nat × Bool × Nat := match lineR [] false (b.drop a) with
  | none => (⟨#[]⟩, b.length, false, 0)
  | some (k, none) => (⟨#[]⟩, a + k, false, 100)
  | some (k, some s) => (sS s, a + k, true, 0)
theorem lnX_none {b : List UInt8} {a : Nat} (h : lineR [] false (b.drop a) = none) : lnX b a = (⟨#[]⟩, b.length, false, 0) := by unfold lnX; rw [h]
theorem lnX_bad {b : List UInt8} {a k : Nat} (h : lineR [] false (b.drop a) = some (k, none)) : lnX b a = (⟨#[]⟩, a + k, false, 100) := by unfold lnX; rw [h]
theorem lnX_line {b : List UInt8} {a k : Nat} {s : List UInt8} (h : lineR [] false (b.drop a) = some (k, some s)) : lnX b a = (sS s, a + k, true, 0) := by unfold lnX; rw [h]
theorem Bs.cellAt {w : World} {base : Nat} {a : Option Addr} {m c : Nat} {l : List UInt8} (h : Bs w base (.slice a m c) l) {j : Nat} (hj : j < l.length) : m = l.length ∧ l.length ≤ c ∧ ∃ g o, a = some ⟨g, o, none⟩ ∧ g < w.heap.size ∧ ∀ i (hi : i < l.length), w.cell? ⟨g, o + i, none⟩ = some (.int .u8 (l[i].toNat : Int)) := by
  obtain ⟨a', c', he, hc, hx⟩ := h
  simp only [Value.slice.injEq] at he
  obtain ⟨rfl, rfl, rfl⟩ := he
  obtain ⟨g, o, rfl, _, h3, _⟩ := hx j hj
  refine ⟨rfl, hc, g, o, rfl, h3, fun i hi => ?_⟩
  obtain ⟨g', o', h1, _, _, h4⟩ := hx i hi
  simp only [Option.some.injEq, Addr.mk.injEq] at h1
  obtain ⟨rfl, rfl, _⟩ := h1
  exact h4
theorem conv_part {w : World} {g o c n m : Nat} {l : List UInt8} (hx : ∀ i (hi : i < l.length), w.cell? ⟨g, o + i, none⟩ = some (.int .u8 (l[i].toNat : Int))) (h : n ≤ m) (hm : m ≤ l.length) : (convert 29 9 (.slice (some ⟨g, o + n, none⟩) (m - n) c)).run Tryd.prog w = .ok (.string (sS ((l.drop n).take (m - n)))) w := by
  have hl : ((l.drop n).take (m - n)).length = m - n := by rw [List.length_take, List.length_drop]; omega
  have := run_convert_bytes_back w 29 9 5 ⟨g, o + n, none⟩ c ((l.drop n).take (m - n)) Tryd.underlying29 Tryd.underlying5 Tryd.underlying9 (fun j hj => by
    have e : (⟨g, o + n, none⟩ : Addr).add j = ⟨g, o + (n + j), none⟩ := by unfold Addr.add; split <;> simp_all [Nat.add_assoc]
    rw [hl] at hj
    rw [e, hx (n + j) (by omega)]
    simp)
  rw [hl] at this
  exact this
theorem u8_ne {c : UInt8} {k : Nat} (hk : k < 256) (h : c ≠ UInt8.ofNat k) : ¬ (c.toNat : Int) = (k : Int) := fun e => h (UInt8.toNat_inj.1 (by rw [UInt8.toNat_ofNat']; omega))
set_option maxHeartbeats 4000000 in
theorem rline_any (v : Value) (b : List UInt8) (a : Nat) (w : World) (hB : Bs w w.heap.size v b) (ha : a ≤ b.length) (hl : b.length ≤ 70368744177664) :
    Calls Tryd.prog 21 #[v, .int .i64 (a : Int)] w fun e w' => e = .returned (.tuple #[.string (lnX b a).1, .int .i64 ((lnX b a).2.1 : Int), .bool (lnX b a).2.2.1, .int .i64 ((lnX b a).2.2.2 : Int)]) ∧ w = w' := by
  have HB := hide hB
  obtain ⟨va, vc, rfl, hvc, _⟩ := hB
  generalize hX : lnX b a = X
  have HX := hide hX
  clear hX
  go_enter Tryd.func21, Tryd.ntmps21
  go_wp2_with fail
  go_loop [8] (fun i => ∃ (k : Nat) (acc : List UInt8) (en : Bool), k ≤ b.length ∧ a ≤ k ∧ i = .int .i64 k ∧ Hid (LnAt b a k acc en)) (fun i => b.length - (intOf i).toNat)
  case atStart => exact ⟨a, [], false, ha, Nat.le_refl _, rfl, hide (LnAt.zero ha)⟩
  case round =>
    obtain ⟨k, acc, en, hk, hak, rfl, HL⟩ := hrel
    by_cases hlt : k < b.length
    · obtain ⟨_, _, g, o, rfl, _, hx⟩ := HB.out.cellAt hlt
      have HC := hide hx
      have r1 := hx k hlt
      have HS := hide (HL.out.step hlt)
      have hi1 : (k : Int) - 1 = ((k - 1 : Nat) : Int) ∨ k = 0 := by omega
      have HE := hide HL.out.ee
      have HN := hide HL.out.ne
      have hby := byte_lt b[k]
      generalize b[k] = x at r1 HS hby
      have fin : ∀ (X : ByteArray × Nat × Bool × Nat) (s : ByteArray) (n : Nat) (wh : Bool) (e : Nat), X = (s, n, wh, e) → (Ending.returned (.tuple #[.string s, .int .i64 (n : Int), .bool wh, .int .i64 (e : Int)]) = .returned (.tuple #[.string X.1, .int .i64 (X.2.1 : Int), .bool X.2.2.1, .int .i64 (X.2.2.2 : Int)])) := by rintro X s n wh e rfl; rfl
      have FIN := hide fin
      clear hx fin
      have e1 : ∀ m : Nat, m = k + 1 → (m : Int) = (k : Int) + 1 := by intro m hm; omega
      have E1 := hide e1
      clear e1
      cases en with
      | true =>
        have hlk := (HE.out rfl).1
        have hp13 := (HE.out rfl).2
        have hk1 : k - 1 < b.length := by omega
        have r0 := HC.out (k - 1) hk1
        rw [List.getElem?_eq_getElem hk1, Option.some.injEq] at hp13
        rw [hp13] at r0
        have hsub : (k : Int) - 1 = ((k - 1 : Nat) : Int) := by omega
        have r0' : w.cell? ⟨g, o + (k - 1), none⟩ = some (.int .u8 13) := r0
        clear r0 hp13 hi1 HE HN
        have t1 : (a : Int) < (k : Int) := by omega
        by_cases h10 : x = 10
        · have t10 : ((x.toNat : Int) == 10) = true := by rw [h10]; rfl
          have HR := hide (lnX_line (HS.out.2.1 rfl h10))
          have hcc : ¬ vc = a := by omega
          have CV := conv_part (c := vc - a) HC.out (n := a) (m := k - 1) (by omega) (by omega)
          have hsp : k - 1 - a = k - 1 - a := rfl
          clear HS h10
          go_wp2_with fail
          refine bodyPost_ret (v := .tuple #[.string (sS ((b.drop a).take (k - 1 - a))), .int .i64 ((k : Int) + 1), .bool true, .int .i64 0]) (by simp [results, Tryd.results21, go_sem]) rfl ⟨?_, rfl⟩
          have := FIN.out X (sS ((b.drop a).take (k - 1 - a))) (k + 1) true 0 (by rw [← HX.out, HR.out, show a + (k + 1 - a) = k + 1 by omega])
          exact this
        · have t10 : ((x.toNat : Int) == 10) = false := beq_eq_false_iff_ne.2 (u8_ne (k := 10) (by decide) h10)
          have HR := hide (lnX_bad (HS.out.1 (by rw [decide_eq_false h10]; decide)))
          clear HS h10
          go_wp2_with fail
          refine bodyPost_ret (v := .tuple #[.string ⟨#[]⟩, .int .i64 ((k : Int) + 1), .bool false, .int .i64 100]) (by simp [results, Tryd.results21, go_sem]) rfl ⟨?_, rfl⟩
          exact FIN.out X ⟨#[]⟩ (k + 1) false 100 (by rw [← HX.out, HR.out, show a + (k + 1 - a) = k + 1 by omega])
      | false =>
        have hpre : a = k ∧ True ∨ a < k ∧ ∃ (hk1 : k - 1 < b.length), b[k - 1] ≠ 13 := by
          rcases Nat.lt_or_ge a k with h | h
          · right
            have hk1 : k - 1 < b.length := by omega
            refine ⟨h, hk1, fun e => HN.out rfl h ?_⟩
            rw [List.getElem?_eq_getElem hk1, e]
          · exact .inl ⟨by omega, trivial⟩
        have HPRE := hide hpre
        clear hpre HE HN hi1
        rcases HPRE.out with ⟨he, _⟩ | ⟨hlk, hk1, hn13⟩
        · have t1 : ¬ (a : Int) < (k : Int) := by omega
          clear HPRE he
          by_cases h10 : x = 10
          · have t10 : ((x.toNat : Int) == 10) = true := by rw [h10]; rfl
            have HR := hide (lnX_bad (HS.out.1 (by rw [decide_eq_true h10]; decide)))
            clear HS h10
            go_wp2_with fail
            refine bodyPost_ret (v := .tuple #[.string ⟨#[]⟩, .int .i64 ((k : Int) + 1), .bool false, .int .i64 100]) (by simp [results, Tryd.results21, go_sem]) rfl ⟨?_, rfl⟩
            exact FIN.out X ⟨#[]⟩ (k + 1) false 100 (by rw [← HX.out, HR.out, show a + (k + 1 - a) = k + 1 by omega])
          · have t10 : ((x.toNat : Int) == 10) = false := beq_eq_false_iff_ne.2 (u8_ne (k := 10) (by decide) h10)
            by_cases h13 : x = 13
            · have t13 : ((x.toNat : Int) != 13) = false := by rw [h13]; rfl
              have HL2 := hide (HS.out.2.2.1 rfl h10 h13)
              clear HS h10 h13
              go_wp2_with fail
              exact ⟨⟨k + 1, acc, true, by omega, by omega, by go_num, HL2⟩, by simp [intOf]; omega⟩
            · have t13 : ((x.toNat : Int) != 13) = true := bne_iff_ne.2 (u8_ne (k := 13) (by decide) h13)
              have hsb : (k : Int) - (a : Int) = ((k - a : Nat) : Int) := by omega
              by_cases h8 : 8192 ≤ k - a
              · have t8 : (8192 : Int) ≤ ((k - a : Nat) : Int) := by omega
                have HR := hide (lnX_bad (HS.out.2.2.2.1 rfl h10 h13 h8))
                clear HS h10 h13 h8
                go_wp2_with fail
                refine bodyPost_ret (v := .tuple #[.string ⟨#[]⟩, .int .i64 ((k : Int) + 1), .bool false, .int .i64 100]) (by simp [results, Tryd.results21, go_sem]) rfl ⟨?_, rfl⟩
                exact FIN.out X ⟨#[]⟩ (k + 1) false 100 (by rw [← HX.out, HR.out, show a + (k + 1 - a) = k + 1 by omega])
              · have t8 : ¬ (8192 : Int) ≤ ((k - a : Nat) : Int) := by omega
                have HL2 := hide (HS.out.2.2.2.2 rfl h10 h13 h8)
                clear HS h10 h13 h8
                go_wp2_with fail
                exact ⟨⟨k + 1, _, false, by omega, by omega, by go_num, HL2⟩, by simp [intOf]; omega⟩
        · have t1 : (a : Int) < (k : Int) := by omega
          have r0 := HC.out (k - 1) hk1
          have hsub : (k : Int) - 1 = ((k - 1 : Nat) : Int) := by omega
          have hb0 := byte_lt b[k - 1]
          generalize b[k - 1] = y at r0 hn13 hb0
          have t0 : ((y.toNat : Int) == 13) = false := beq_eq_false_iff_ne.2 (u8_ne (k := 13) (by decide) hn13)
          clear HPRE hn13
          by_cases h10 : x = 10
          · have t10 : ((x.toNat : Int) == 10) = true := by rw [h10]; rfl
            have HR := hide (lnX_bad (HS.out.1 (by rw [decide_eq_true h10]; decide)))
            clear HS h10
            go_wp2_with fail
            refine bodyPost_ret (v := .tuple #[.string ⟨#[]⟩, .int .i64 ((k : Int) + 1), .bool false, .int .i64 100]) (by simp [results, Tryd.results21, go_sem]) rfl ⟨?_, rfl⟩
            exact FIN.out X ⟨#[]⟩ (k + 1) false 100 (by rw [← HX.out, HR.out, show a + (k + 1 - a) = k + 1 by omega])
          · have t10 : ((x.toNat : Int) == 10) = false := beq_eq_false_iff_ne.2 (u8_ne (k := 10) (by decide) h10)
            by_cases h13 : x = 13
            · have t13 : ((x.toNat : Int) != 13) = false := by rw [h13]; rfl
              have HL2 := hide (HS.out.2.2.1 rfl h10 h13)
              clear HS h10 h13
              go_wp2_with fail
              exact ⟨⟨k + 1, acc, true, by omega, by omega, by go_num, HL2⟩, by simp [intOf]; omega⟩
            · have t13 : ((x.toNat : Int) != 13) = true := bne_iff_ne.2 (u8_ne (k := 13) (by decide) h13)
              have hsb : (k : Int) - (a : Int) = ((k - a : Nat) : Int) := by omega
              by_cases h8 : 8192 ≤ k - a
              · have t8 : (8192 : Int) ≤ ((k - a : Nat) : Int) := by omega
                have HR := hide (lnX_bad (HS.out.2.2.2.1 rfl h10 h13 h8))
                clear HS h10 h13 h8
                go_wp2_with fail
                refine bodyPost_ret (v := .tuple #[.string ⟨#[]⟩, .int .i64 ((k : Int) + 1), .bool false, .int .i64 100]) (by simp [results, Tryd.results21, go_sem]) rfl ⟨?_, rfl⟩
                exact FIN.out X ⟨#[]⟩ (k + 1) false 100 (by rw [← HX.out, HR.out, show a + (k + 1 - a) = k + 1 by omega])
              · have t8 : ¬ (8192 : Int) ≤ ((k - a : Nat) : Int) := by omega
                have HL2 := hide (HS.out.2.2.2.2 rfl h10 h13 h8)
                clear HS h10 h13 h8
                go_wp2_with fail
                exact ⟨⟨k + 1, _, false, by omega, by omega, by go_num, HL2⟩, by simp [intOf]; omega⟩
    · obtain rfl : k = b.length := by omega
      have HR := hide (lnX_none HL.out.stop)
      clear hlt hk
      go_wp2_with fail
      refine bodyPost_ret (v := .tuple #[.string ⟨#[]⟩, .int .i64 (b.length : Int), .bool false, .int .i64 0]) (by simp [results, Tryd.results21, go_sem]) rfl ⟨?_, rfl⟩
      rw [← HX.out, HR.out]
      rfl
theorem k2_list (c : UInt8) (s : ByteArray) : (k2 c s).data.toList = s.data.toList.drop ((k1 c s).size + 1) ∧ (k1 c s).size ≤ s.size ∧ ((h : (k1 c s).size < s.size) → s[(k1 c s).size] = c) := by
  unfold k1 k2
  rw [sS_list, sS_size]
  rcases cu_form c s.data.toList with h | ⟨a, b, e, h⟩
  · rw [(cu_no h).1, (cu_no h).2.1, size_len]
    refine ⟨?_, Nat.le_refl _, fun h2 => by omega⟩
    rw [List.drop_of_length_le (by rw [size_len]; omega)]
  · have hsz := size_len s
    rw [e] at hsz ⊢
    rw [(cu_yes h).1, (cu_yes h).2.1]
    refine ⟨by simp, by rw [← hsz]; simp, fun h2 => ?_⟩
    have h3 : s.data.toList[a.length]? = some c := by rw [e]; simp
    rw [List.getElem?_eq_getElem (by rw [size_len]; exact h2), Option.some.injEq] at h3
    exact h3
theorem k2_no {s : ByteArray} {j : Nat} (h : j < s.size) (h1 : (k1 59 s).size ≤ j) (h2 : valc s[j] = false) : (k2 59 s).data.toList.all valc = false := by
  obtain ⟨e1, e2, e3⟩ := k2_list 59 s
  rcases Nat.eq_or_lt_of_le h1 with h3 | h3
  · subst h3
    rw [e3 h] at h2
    exact absurd h2 (by decide)
  · rw [e1, Bool.eq_false_iff]
    intro ha
    rw [List.all_eq_true] at ha
    have hm : s[j] ∈ s.data.toList.drop ((k1 59 s).size + 1) := by
      rw [List.mem_iff_getElem?]
      refine ⟨j - ((k1 59 s).size + 1), ?_⟩
      rw [List.getElem?_drop, show (k1 59 s).size + 1 + (j - ((k1 59 s).size + 1)) = j by omega, List.getElem?_eq_getElem (by rw [size_len]; exact h)]
      rfl
    have := ha _ hm
    rw [h2] at this
    cases this
theorem k2_yes {s : ByteArray} (h : ∀ (j : Nat) (h : j < s.size), (k1 59 s).size ≤ j → valc s[j] = true) : (k2 59 s).data.toList.all valc = true := by
  obtain ⟨e1, e2, e3⟩ := k2_list 59 s
  rw [e1, List.all_eq_true]
  intro x hx
  rw [List.mem_iff_getElem?] at hx
  obtain ⟨i, hi⟩ := hx
  rw [List.getElem?_drop, List.getElem?_eq_some_iff] at hi
  obtain ⟨h1, h2⟩ := hi
  rw [size_len] at h1
  rw [← h2]
  exact h _ h1 (by omega)
def szI (s : ByteArray) : Int := match sizeV s with
  | none => -1
  | some n => (n : Int)
set_option maxHeartbeats 4000000 in
theorem rsize_any (s : ByteArray) (w : World) (hs : s.size ≤ 65536) :
    Calls Tryd.prog 22 #[.string s] w fun e w' => e = .returned (.int .i64 (szI s)) ∧ w = w' := by
  have z1 := k1_size 59 s
  have HD := hide (fun W => rnumber_16 (k1 59 s) W (by unfold maxLen; omega))
  generalize hI : szI s = I
  unfold szI sizeV at hI
  have hnt : numV 16 (k1 59 s).data.toList ≤ 9007199254740992 := by
    unfold numV
    split
    · omega
    · rename_i hh
      rw [not_or, not_or] at hh
      have := hh.2.2
      unfold top at this
      omega
  have HI := hide hI
  clear hI
  have hm : (k1 59 s).size ≤ s.size := z1
  have HVS : Hid (∀ (j : Nat) (h : j < s.size), (k1 59 s).size ≤ j → valc s[j] = false → (k2 59 s).data.toList.all valc = false) := hide (fun j h h1 h2 => k2_no h h1 h2)
  have HVA : Hid ((∀ (j : Nat) (h : j < s.size), (k1 59 s).size ≤ j → valc s[j] = true) → (k2 59 s).data.toList.all valc = true) := hide k2_yes
  go_enter Tryd.func22, Tryd.ntmps22
  go_wp2_with fail
  go_loop [3, 4] (fun d i => ∃ k : Nat, k ≤ s.size ∧ d = .string s ∧ i = .int .i64 k ∧ Hid (∀ x ∈ s.data.toList.take k, x ≠ 59)) (fun _ i => s.size - (intOf i).toNat)
  case atStart => exact ⟨0, Nat.zero_le _, rfl, rfl, hide (fun x hx => by simp at hx)⟩
  case round =>
    obtain ⟨k, hk, rfl, rfl, HN⟩ := hrel
    by_cases hlt : k < s.size
    · have HTS := hide (take_snoc s k hlt)
      have hlen : k < s.data.toList.length := by rw [size_len]; exact hlt
      have hby := byte_lt s[k]
      by_cases he : s[k] = 59
      · have t1 : ((s[k].toNat : Int) == 59) = true := by rw [he]; rfl
        have HC := hide (cu_at (c := 59) hlen HN.out (by rw [← he]; rfl))
        have E1 : k1 59 s = s.extract 0 k := data_inj (by unfold k1; rw [sS_list, HC.out.1, ext_list, List.drop_zero, Nat.sub_zero])
        have HM : Hid ((k1 59 s).size = k) := hide (by rw [E1, ext_size]; omega)
        have HEX := hide E1
        clear he HTS E1 HC
        obtain ⟨m, hmm⟩ : ∃ m, (k1 59 s).size = m := ⟨_, rfl⟩
        rw [hmm] at HVS HVA hm HM
        obtain rfl := HM.out
        clear hmm
        go_wp2_with fail
        rw [← HEX.out]
        go_loop [5] (fun i => ∃ k : Nat, m ≤ k ∧ k ≤ s.size ∧ i = .int .i64 k ∧ Hid (∀ (j : Nat) (h : j < s.size), m ≤ j → j < k → valc s[j] = true)) (fun i => s.size - (intOf i).toNat)
        case atStart => exact ⟨m, Nat.le_refl _, hm, rfl, hide (fun j _ h1 h2 => by omega)⟩
        case round =>
          obtain ⟨k, hmk, hk, rfl, HA⟩ := hrel
          by_cases hlt : k < s.size
          · have hby := byte_lt s[k]
            have HV := hide (HVS.out k hlt)
            have HA2 : Hid (valc s[k] = true → ∀ (j : Nat) (h : j < s.size), m ≤ j → j < k + 1 → valc s[j] = true) := hide (fun hv j h h1 h2 => by
              rcases Nat.lt_or_ge j k with h3 | h3
              · exact HA.out j h h1 h3
              · obtain rfl : j = k := by omega
                exact hv)
            by_cases hv : valc s[k] = true
            · have HA3 := hide (HA2.out hv)
              have hv2 := hv
              unfold valc at hv2
              simp only [Bool.or_eq_true, Bool.and_eq_true, decide_eq_true_eq, Bool.not_eq_true', decide_eq_false_iff_not] at hv2
              have t3 : ((s[k].toNat : Int) == 127) = false := beq_eq_false_iff_ne.2 (by omega)
              by_cases h32 : s[k].toNat < 32
              · have t1 : (s[k].toNat : Int) < 32 := by omega
                have t2 : ((s[k].toNat : Int) != 9) = false := by rw [bne_eq_false_iff_eq]; omega
                clear hv hv2 HA2 HV h32
                go_wp2_with fail
                exact ⟨⟨k + 1, by omega, by omega, by go_num, HA3⟩, by simp [intOf]; omega⟩
              · have t1 : ¬ (s[k].toNat : Int) < 32 := by omega
                clear hv hv2 HA2 HV h32
                go_wp2_with fail
                exact ⟨⟨k + 1, by omega, by omega, by go_num, HA3⟩, by simp [intOf]; omega⟩
            · have HB := hide (HV.out hmk (by simpa using hv))
              have hv2 := hv
              unfold valc at hv2
              simp only [Bool.or_eq_true, Bool.and_eq_true, decide_eq_true_eq, Bool.not_eq_true', decide_eq_false_iff_not] at hv2
              by_cases h32 : s[k].toNat < 32
              · have t1 : (s[k].toNat : Int) < 32 := by omega
                have t2 : ((s[k].toNat : Int) != 9) = true := bne_iff_ne.2 (by omega)
                clear hv hv2 HA2 HV h32
                go_wp2_with fail
                go_ret
                exact ⟨ret_int (by rw [← HI.out, if_pos (.inr HB.out)]), rfl⟩
              · have t1 : ¬ (s[k].toNat : Int) < 32 := by omega
                have t3 : ((s[k].toNat : Int) == 127) = true := beq_iff_eq.2 (by omega)
                clear hv hv2 HA2 HV h32
                go_wp2_with fail
                go_ret
                exact ⟨ret_int (by rw [← HI.out, if_pos (.inr HB.out)]), rfl⟩
          · obtain rfl : k = s.size := by omega
            have HB := hide (HVA.out fun j h h1 => HA.out j h h1 h)
            clear hlt hk
            go_wp2_with fail
            refine (HD.out w).mono ?_
            rintro e w' ⟨rfl, rfl⟩
            by_cases hne : numE 16 (k1 59 s).data.toList = 0
            · have t0 : ((numE 16 (k1 59 s).data.toList : Int) != 0) = false := by rw [bne_eq_false_iff_eq]; omega
              have HF : Hid ((numV 16 (k1 59 s).data.toList : Int) = I) := hide (by rw [← HI.out, if_neg (by rw [HB.out]; simp [hne])])
              clear hne
              generalize numE 16 (k1 59 s).data.toList = ne at t0 ⊢
              generalize numV 16 (k1 59 s).data.toList = nv at HF hnt ⊢
              go_wp2_with fail
              go_ret
              exact ⟨ret_int HF.out, rfl⟩
            · have t0 : ((numE 16 (k1 59 s).data.toList : Int) != 0) = true := bne_iff_ne.2 (by omega)
              have HF : Hid ((-1 : Int) = I) := hide (by rw [← HI.out, if_pos (.inl hne)])
              clear hne
              generalize numE 16 (k1 59 s).data.toList = ne at t0 ⊢
              generalize numV 16 (k1 59 s).data.toList = nv at hnt ⊢
              go_wp2_with fail
              go_ret
              exact ⟨ret_int HF.out, rfl⟩
      · have t1 : ((s[k].toNat : Int) == 59) = false := beq_eq_false_iff_ne.2 (u8_ne (k := 59) (by decide) he)
        have HN2 : Hid (∀ x ∈ s.data.toList.take (k + 1), x ≠ 59) := hide (fun x hx => by
          rw [HTS.out, List.mem_append] at hx
          rcases hx with h1 | h1
          · exact HN.out x h1
          · simp only [List.mem_singleton] at h1
            rw [h1]; exact he)
        clear he HTS
        go_wp2_with fail
        exact ⟨⟨k + 1, by omega, rfl, by go_num, HN2⟩, by simp [intOf]; omega⟩
    · have HC := hide (cu_no (c := 59) (by have := HN.out; rw [take_all s k (by omega)] at this; exact this))
      have HEX : Hid (k1 59 s = s) := hide (data_inj (by unfold k1; rw [sS_list, HC.out.1]))
      have HM : Hid ((k1 59 s).size = s.size) := hide (by rw [HEX.out])
      obtain rfl : k = s.size := by omega
      clear HC hlt hk
      obtain ⟨m, hmm⟩ : ∃ m, (k1 59 s).size = m := ⟨_, rfl⟩
      rw [hmm] at HVS HVA hm HM
      rw [HEX.out] at HD HI hnt
      have hm2 : s.size ≤ m := by have := HM.out; omega
      clear hmm HEX z1 HN HM
      go_wp2_with fail
      go_loop [5] (fun i => ∃ k : Nat, m ≤ k ∧ k ≤ s.size ∧ i = .int .i64 k ∧ Hid (∀ (j : Nat) (h : j < s.size), m ≤ j → j < k → valc s[j] = true)) (fun i => s.size - (intOf i).toNat)
      case atStart => exact ⟨m, Nat.le_refl _, hm, by rw [Nat.le_antisymm hm hm2], hide (fun j _ h1 h2 => by omega)⟩
      case round =>
        obtain ⟨k, hmk, hk, rfl, HA⟩ := hrel
        by_cases hlt : k < s.size
        · have hby := byte_lt s[k]
          have HV := hide (HVS.out k hlt)
          have HA2 : Hid (valc s[k] = true → ∀ (j : Nat) (h : j < s.size), m ≤ j → j < k + 1 → valc s[j] = true) := hide (fun hv j h h1 h2 => by
            rcases Nat.lt_or_ge j k with h3 | h3
            · exact HA.out j h h1 h3
            · obtain rfl : j = k := by omega
              exact hv)
          by_cases hv : valc s[k] = true
          · have HA3 := hide (HA2.out hv)
            have hv2 := hv
            unfold valc at hv2
            simp only [Bool.or_eq_true, Bool.and_eq_true, decide_eq_true_eq, Bool.not_eq_true', decide_eq_false_iff_not] at hv2
            have t3 : ((s[k].toNat : Int) == 127) = false := beq_eq_false_iff_ne.2 (by omega)
            by_cases h32 : s[k].toNat < 32
            · have t1 : (s[k].toNat : Int) < 32 := by omega
              have t2 : ((s[k].toNat : Int) != 9) = false := by rw [bne_eq_false_iff_eq]; omega
              clear hv hv2 HA2 HV h32
              go_wp2_with fail
              exact ⟨⟨k + 1, by omega, by omega, by go_num, HA3⟩, by simp [intOf]; omega⟩
            · have t1 : ¬ (s[k].toNat : Int) < 32 := by omega
              clear hv hv2 HA2 HV h32
              go_wp2_with fail
              exact ⟨⟨k + 1, by omega, by omega, by go_num, HA3⟩, by simp [intOf]; omega⟩
          · have HB := hide (HV.out hmk (by simpa using hv))
            have hv2 := hv
            unfold valc at hv2
            simp only [Bool.or_eq_true, Bool.and_eq_true, decide_eq_true_eq, Bool.not_eq_true', decide_eq_false_iff_not] at hv2
            by_cases h32 : s[k].toNat < 32
            · have t1 : (s[k].toNat : Int) < 32 := by omega
              have t2 : ((s[k].toNat : Int) != 9) = true := bne_iff_ne.2 (by omega)
              clear hv hv2 HA2 HV h32
              go_wp2_with fail
              go_ret
              exact ⟨ret_int (by rw [← HI.out, if_pos (.inr HB.out)]), rfl⟩
            · have t1 : ¬ (s[k].toNat : Int) < 32 := by omega
              have t3 : ((s[k].toNat : Int) == 127) = true := beq_iff_eq.2 (by omega)
              clear hv hv2 HA2 HV h32
              go_wp2_with fail
              go_ret
              exact ⟨ret_int (by rw [← HI.out, if_pos (.inr HB.out)]), rfl⟩
        · obtain rfl : k = s.size := by omega
          have HB := hide (HVA.out fun j h h1 => HA.out j h h1 h)
          clear hlt hk
          go_wp2_with fail
          refine (HD.out w).mono ?_
          rintro e w' ⟨rfl, rfl⟩
          by_cases hne : numE 16 s.data.toList = 0
          · have t0 : ((numE 16 s.data.toList : Int) != 0) = false := by rw [bne_eq_false_iff_eq]; omega
            have HF : Hid ((numV 16 s.data.toList : Int) = I) := hide (by rw [← HI.out, if_neg (by rw [HB.out]; simp [hne])])
            clear hne
            generalize numE 16 s.data.toList = ne at t0 ⊢
            generalize numV 16 s.data.toList = nv at HF hnt ⊢
            go_wp2_with fail
            go_ret
            exact ⟨ret_int HF.out, rfl⟩
          · have t0 : ((numE 16 s.data.toList : Int) != 0) = true := bne_iff_ne.2 (by omega)
            have HF : Hid ((-1 : Int) = I) := hide (by rw [← HI.out, if_pos (.inl hne)])
            clear hne
            generalize numE 16 s.data.toList = ne at t0 ⊢
            generalize numV 16 s.data.toList = nv at hnt ⊢
            go_wp2_with fail
            go_ret
            exact ⟨ret_int HF.out, rfl⟩
end Go.Proofs.YthciahpadninpaaDoor
/- The document's trailer. -/
namespace Go.Proofs.YthciahpadninpaaDoor
open Go.ChangeShapes Go.WideShapes Go.ChangeAt Go.RowKit

theorem calls_ex {P : Program} {f : Nat} {args : Array Value} {w : World} {r : Value} {R : World → Prop} (c : Calls P f args w fun e w' => e = .returned r ∧ R w') : Calls P f args w fun e w' => ∃ u, e = .returned u ∧ (u = r ∧ R w') :=
  c.mono fun _ _ ⟨h1, h2⟩ => ⟨r, h1, rfl, h2⟩
def trOk (s : ByteArray) : Bool := k3 58 s && decide (chkF (fldF s) = 0)
set_option maxHeartbeats 4000000 in
set_option maxRecDepth 100000 in
theorem rtrailer_any (s : ByteArray) (w : World) (hs : s.size ≤ 8192) :
    Calls Tryd.prog 35 #[.string s] w fun e w' => ∃ r1 r2, e = .returned (.tuple #[.agg #[.string r1, .string r2], .bool (trOk s)]) ∧ (k3 58 s = true → (r1, r2) = fldF s) ∧ Below w.heap.size w w' := by
  have HT := hide (fun W => rtrim_any (k2 58 s) W (by have := k2_size 58 s; unfold maxLen; omega))
  have z1 := k1_size 58 s
  have z2 := k2_size 58 s
  have z3 := trim_size (k2 58 s)
  have HK := hide (fun (W : World) (v : Value) (hF : Flds W v [(k1 58 s, trimS (k2 58 s))]) => rCheck_any W v _ hF ⟨by simp, fun f hf => by
      rw [List.mem_singleton.1 hf]
      exact ⟨Nat.le_trans z1 (by omega), Nat.le_trans z3 (by omega)⟩⟩)
  simp only [chk_one] at HK
  obtain ⟨ok, hok⟩ : ∃ b, trOk s = b := ⟨_, rfl⟩
  rw [hok]
  have HOK := hide hok
  clear hok
  go_enter Tryd.func35, Tryd.ntmps35
  go_wp2_with fail
  have T0 := hide (Bl.one w #[.string ⟨#[]⟩, .string ⟨#[]⟩] 46)
  have hxs : (w.alloc (.cells #[.string ⟨#[]⟩, .string ⟨#[]⟩] 46)).heap.size = w.heap.size + 1 := by simp
  generalize (w.alloc (.cells #[.string ⟨#[]⟩, .string ⟨#[]⟩] 46)) = x at T0 hxs ⊢
  go_loopw [4] (fun i wr => ∃ k : Nat, k ≤ s.size ∧ i = .int .i64 k ∧ wr = x ∧ Hid (∀ x ∈ s.data.toList.take k, x ≠ 58)) (fun i _ => s.size - (intOf i).toNat)
  case atStart => exact ⟨0, Nat.zero_le _, rfl, rfl, hide (fun x hx => by simp at hx)⟩
  case round =>
    obtain ⟨k, hk, rfl, rfl, HN⟩ := hrel
    by_cases hlt : k < s.size
    · have HTS := hide (take_snoc s k hlt)
      have hlen : k < s.data.toList.length := by rw [size_len]; exact hlt
      have hby := byte_lt s[k]
      by_cases he : s[k] = 58
      · have t1 : ((s[k].toNat : Int) == 58) = true := by rw [he]; rfl
        have HC := hide (cu_at (c := 58) hlen HN.out (by rw [← he]; rfl))
        have E1 : k1 58 s = s.extract 0 k := data_inj (by unfold k1; rw [sS_list, HC.out.1, ext_list, List.drop_zero, Nat.sub_zero])
        have E2 : k2 58 s = s.extract (k + 1) s.size := data_inj (by
          unfold k2
          rw [sS_list, HC.out.2.1, ext_list, List.take_of_length_le]
          rw [List.length_drop, size_len]
          omega)
        have E3 : k3 58 s = true := HC.out.2.2
        have HOK2 : Hid (decide (chkF (k1 58 s, trimS (k2 58 s)) = 0) = ok) := hide (by have := HOK.out; unfold trOk at this; rw [E3, Bool.true_and] at this; exact this)
        have HFF : Hid (fldF s = (k1 58 s, trimS (k2 58 s))) := hide rfl
        rw [E1, E2] at HK HOK2 HFF
        rw [E2] at HT
        generalize hna : s.extract 0 k = na at HK HOK2 HFF
        generalize hta : s.extract (k + 1) s.size = ta at HT HK HOK2 HFF
        generalize trimS ta = va at HT HK HOK2 HFF
        generalize chkF (na, va) = ck at HK HOK2
        clear he HTS E1 E2 E3 HC HOK z1 z2 z3
        have hwr : IntKind.i64.wrap ((k : Int) + 1) = (k : Int) + 1 := IntWalk.i64_in _ ⟨by omega, by omega⟩
        have hle1 : (k : Int) + 1 ≤ (s.size : Int) := by omega
        have hge1 : 0 ≤ (k : Int) + 1 := by omega
        go_upto_region 5 with fail
        go_region_law (refine step_call rfl 49 _ _ rfl (enters_of Tryd.func49 (by kernel_rfl) rfl) #[.string ta] (by simp [Act.eval, Act.put]) _ (calls_ex (HT.out _)) ?_; rintro r w2 ⟨rfl, rfl⟩)
        all_goals (
          have T1 := hide ((T0.out.add hxs #[.string na, .string va] 46).drew)
          have hys : (wr.alloc (.cells #[.string na, .string va] 46)).drew.heap.size = w.heap.size + 2 := by
            show (wr.alloc (.cells #[.string na, .string va] 46)).heap.size = _
            simp
            omega
          generalize (wr.alloc (.cells #[.string na, .string va] 46)).drew = y at T1 hys ⊢
          clear T0 hna hta hxs
          go_upto_region 6 with fail
          have T2 := hide T1.out.drew
          have d0 : y.drew.cell? ⟨w.heap.size + 1, 0, none⟩ = some (.string na) := T2.out.cell 1 rfl 0
          have d1 : y.drew.cell? ⟨w.heap.size + 1, 1, none⟩ = some (.string va) := T2.out.cell 1 rfl 1
          have c0 : y.cell? ⟨w.heap.size + 1, 0, none⟩ = some (.string na) := T1.out.cell 1 rfl 0
          have c1 : y.cell? ⟨w.heap.size + 1, 1, none⟩ = some (.string va) := T1.out.cell 1 rfl 1
          have HB1 := hide ((Below.refl y.drew.heap.size y.drew).alloc (Nat.le_refl _) (.cells #[.string na, .string va] 46))
          have T3 := hide (T2.out.below HB1.out)
          have HCK := hide (HK.out _ _ (flds_one y.drew na va))
          have e0 : (y.drew.alloc (.cells #[.string na, .string va] 46)).cell? ⟨w.heap.size + 1, 0, none⟩ = some (.string na) := T3.out.cell 1 rfl 0
          have e1 : (y.drew.alloc (.cells #[.string na, .string va] 46)).cell? ⟨w.heap.size + 1, 1, none⟩ = some (.string va) := T3.out.cell 1 rfl 1
          go_region_law (refine step_call rfl 28 _ _ rfl (enters_of Tryd.func28 (by kernel_rfl) rfl) #[.slice (some ⟨y.drew.heap.size, 0, none⟩) 1 1] (by simp [Act.eval, hys]) _ (calls_ex HCK.out) ?_; rintro r w5 ⟨rfl, b5⟩; have T4 := hide (T3.out.below b5); have s0 : w5.cell? ⟨w.heap.size, 0, none⟩ = some (.string ⟨#[]⟩) := T4.out.cell 0 rfl 0; have s1 : w5.cell? ⟨w.heap.size, 1, none⟩ = some (.string ⟨#[]⟩) := T4.out.cell 0 rfl 1; have g0 : w5.frozen? ⟨w.heap.size, 0, none⟩ = false := T4.out.fr 0 rfl 0; have g1 : w5.frozen? ⟨w.heap.size, 1, none⟩ = false := T4.out.fr 0 rfl 1; have d0 : w5.cell? ⟨w.heap.size + 1, 0, none⟩ = some (.string na) := T4.out.cell 1 rfl 0; have d1 : w5.cell? ⟨w.heap.size + 1, 1, none⟩ = some (.string va) := T4.out.cell 1 rfl 1)
          all_goals (
            have h3 := hp_set (hp_set (T4.out.hp 0 _ _ rfl) 0 (.string na)) 1 (.string va)
            have k0 := cell_at h3 0
            have k1' := cell_at h3 1
            have kb := (T4.out.b.setCell (p := ⟨w.heap.size, 0, none⟩) (Nat.le_refl _) (.string na)).setCell (p := ⟨w.heap.size, 1, none⟩) (Nat.le_refl _) (.string va)
            simp only [Nat.add_zero] at k0 k1'
            have k0' : ((w5.setCell ⟨w.heap.size, 0, none⟩ (.string na)).setCell ⟨w.heap.size, 1, none⟩ (.string va)).cell? ⟨w.heap.size, 0, none⟩ = some (.string na) := k0
            have k1'' : ((w5.setCell ⟨w.heap.size, 0, none⟩ (.string na)).setCell ⟨w.heap.size, 1, none⟩ (.string va)).cell? ⟨w.heap.size, 1, none⟩ = some (.string va) := k1'
            clear k0 k1' h3 s0 s1 g0 g1 d0 d1
            generalize (w5.setCell ⟨w.heap.size, 0, none⟩ (.string na)).setCell ⟨w.heap.size, 1, none⟩ (.string va) = w9 at k0' k1'' kb ⊢
            go_wp2
            exact bodyPost_ret (v := .tuple #[.agg #[.string na, .string va], .bool ((ck : Int) == 0)]) (by simp [results, Tryd.results35, go_sem, k0', k1'']) rfl ⟨_, _, by rw [← HOK2.out, show ((ck : Int) == 0) = decide (ck = 0) by rw [Bool.eq_iff_iff]; simp], (fun _ => HFF.out.symm), kb⟩))
      · have t1 : ((s[k].toNat : Int) == 58) = false := beq_eq_false_iff_ne.2 (u8_ne (k := 58) (by decide) he)
        have HN2 : Hid (∀ x ∈ s.data.toList.take (k + 1), x ≠ 58) := hide (fun x hx => by
          rw [HTS.out, List.mem_append] at hx
          rcases hx with h1 | h1
          · exact HN.out x h1
          · simp only [List.mem_singleton] at h1
            rw [h1]; exact he)
        clear he HTS
        go_wp2_with fail
        exact ⟨⟨k + 1, by omega, by go_num, trivial, HN2⟩, by simp [intOf]; omega⟩
    · have HC := hide (cu_no (c := 58) (by have := HN.out; rw [take_all s k (by omega)] at this; exact this))
      have E3 : k3 58 s = false := HC.out.2.2
      have hok : ok = false := by rw [← HOK.out]; unfold trOk; rw [E3]; rfl
      subst hok
      have HE3 := hide E3
      clear HC E3 HOK
      have s0 : wr.cell? ⟨w.heap.size, 0, none⟩ = some (.string ⟨#[]⟩) := T0.out.cell 0 rfl 0
      have s1 : wr.cell? ⟨w.heap.size, 1, none⟩ = some (.string ⟨#[]⟩) := T0.out.cell 0 rfl 1
      have g0 : wr.frozen? ⟨w.heap.size, 0, none⟩ = false := T0.out.fr 0 rfl 0
      have g1 : wr.frozen? ⟨w.heap.size, 1, none⟩ = false := T0.out.fr 0 rfl 1
      go_wp2
      have h3 := hp_set (hp_set (T0.out.hp 0 _ _ rfl) 0 (.string ⟨#[]⟩)) 1 (.string ⟨#[]⟩)
      have k0 := cell_at h3 0
      have k1' := cell_at h3 1
      have kb := (T0.out.b.setCell (p := ⟨w.heap.size, 0, none⟩) (Nat.le_refl _) (.string ⟨#[]⟩)).setCell (p := ⟨w.heap.size, 1, none⟩) (Nat.le_refl _) (.string ⟨#[]⟩)
      simp only [Nat.add_zero] at k0 k1'
      generalize (wr.setCell ⟨w.heap.size, 0, none⟩ (.string ⟨#[]⟩)).setCell ⟨w.heap.size, 1, none⟩ (.string ⟨#[]⟩) = w9 at k0 k1' kb ⊢
      clear s0 s1 g0 g1
      exact bodyPost_ret (v := .tuple #[.agg #[.string ⟨#[]⟩, .string ⟨#[]⟩], .bool false]) (by simp [results, Tryd.results35, go_sem, k0, k1']) rfl ⟨_, _, rfl, (fun h => by rw [HE3.out] at h; cases h), kb⟩
end Go.Proofs.YthciahpadninpaaDoor
/- Trailers. -/
namespace Go.Proofs.YthciahpadninpaaDoor
open Go.ChangeShapes Go.WideShapes Go.ChangeAt Go.RowKit

/-- Trailers are no longer than their lines. -/
def TrS (d : Dz) : Prop := ∀ f ∈ d.tr, f.1.size ≤ 8192 ∧ f.2.size ≤ 8192
theorem TrS.new (most : Nat) : TrS (dNew most) := fun f hf => by cases hf
theorem TrS.ended {d : Dz} (h : TrS d) (s : ByteArray) (hs : s.size ≤ 8192) : TrS (dEnd d s).2 := by
  unfold dEnd dSized dRead dTrl
  split
  · repeat' split
    all_goals exact h
  · split
    · exact h
    · repeat' split
      · exact h
      · exact h
      · intro f hf
        rcases List.mem_append.1 hf with h1 | h1
        · exact h f h1
        · rw [List.mem_singleton.1 h1]
          unfold fldF
          have a := k1_size 58 s
          have b := k2_size 58 s
          have c := trim_size (k2 58 s)
          exact ⟨Nat.le_trans a hs, Nat.le_trans c (Nat.le_trans b hs)⟩
theorem TrS.next {d : Dz} (h : TrS d) (hf : FitD d) (c : UInt8) : TrS (dNext d c).2.2 := by
  unfold dNext
  split
  · exact h
  · split
    · exact h
    · split
      · exact TrS.ended (d := { d with line := [], ending := false }) h _ (by rw [sS_size]; exact hf.line)
      · repeat' split
        all_goals exact h
theorem TrS.bytes : ∀ (l : List UInt8) (d : Dz), FitD d → TrS d → TrS (dBytes d l).2.2.2
  | [], _, _, h => h
  | c :: r, d, hf, h => by
    rw [dBytes]
    split
    · exact h.next hf c
    · split
      · exact h.next hf c
      · exact TrS.bytes r _ (hf.next c) (h.next hf c)
set_option maxHeartbeats 8000000 in
set_option maxRecDepth 100000 in
theorem trailers_whole {w : World} {base g : Nat} {lv tv : Value} {d : Dz} (h : Dec w base g lv tv d) (hw : d.whole = true) (hl : d.tr.length ≤ 100) (hz : TrS d) :
    Calls Tryd.prog 15 #[.pointer (some ⟨g, 0, none⟩)] w fun e w' => ∃ v, e = .returned v ∧ FRow w' w.heap.size v d.tr ∧ Below w.heap.size w w' := by
  obtain ⟨ta, tc, rfl, _, _⟩ := h.trs.shape
  have c6 : w.cell? ⟨g, 6, none⟩ = some (.bool true) := by have := h.cell 6; rw [show (dcells d g lv (.slice ta d.tr.length tc))[6]? = some (.bool d.whole) from rfl, hw] at this; exact this
  have c5 : w.cell? ⟨g, 5, none⟩ = some (.slice ta d.tr.length tc) := h.cell 5
  have HF := hide (Flds.of_row h.trs)
  have HZ : Hid (∀ f ∈ d.tr, f.1.size ≤ 8192 ∧ f.2.size ≤ 8192) := hide hz
  clear h hw hz
  generalize d.tr = A at *
  go_enter Tryd.func15, Tryd.ntmps15
  go_wp2_with fail
  go_loopw [3, 20] (fun v i wr => ∃ (k : Nat) (ra : Option Addr) (rn rc : Nat), k ≤ A.length ∧ v = .slice ra rn rc ∧ i = .int .i64 k ∧ Hid (FRow wr w.heap.size (.slice ra rn rc) (A.take k)) ∧ Hid (Below w.heap.size w wr)) (fun _ i _ => A.length - (intOf i).toNat)
  case atStart => exact ⟨0, none, 0, 0, Nat.zero_le _, rfl, rfl, hide (FRow.nil _ _), hide (Below.refl _ _)⟩
  case round =>
    obtain ⟨k, ra, rn, rc, hk, rfl, rfl, HR, HB⟩ := hrel
    by_cases hlt : k < A.length
    · obtain ⟨a', c', he, _, hc⟩ := HF.out
      simp only [Value.slice.injEq] at he
      obtain ⟨rfl, _, rfl⟩ := he
      obtain ⟨b1, o1, rfl, hb1, q1, q2⟩ := hc k hlt
      have r1 : wr.cell? ⟨b1, o1 + k * 2, none⟩ = some (.string A[k].1) := (HB.out.cell (p := ⟨b1, o1 + k * 2, none⟩) hb1).trans q1
      have r2 : wr.cell? ⟨b1, o1 + k * 2 + 1, none⟩ = some (.string A[k].2) := (HB.out.cell (p := ⟨b1, o1 + k * 2 + 1, none⟩) hb1).trans q2
      have HSN := hide (take_snocF A k hlt)
      have HZK := hide (HZ.out A[k] (List.getElem_mem hlt))
      generalize A[k] = f at r1 r2 HSN HZK
      obtain ⟨na, nb⟩ := f
      dsimp only at r1 r2 HZK
      have z1 := HZK.out.1
      have z2 := HZK.out.2
      have hln : (A.take k).length ≤ 1099511627776 := by rw [List.length_take]; omega
      clear hc q1 q2 HZK
      go_upto_region 7 with fail
      have B2 := hide ((Below.refl wr.heap.size wr).alloc (Nat.le_refl _) (.cells #[.string na, .string nb] 46))
      have H2 := hide (hp_new wr (.cells #[.string na, .string nb] 46))
      have hsz2 : wr.heap.size < (wr.alloc (.cells #[.string na, .string nb] 46)).heap.size := lt_heap H2.out
      have HRX := hide (HR.out.below B2.out)
      have HBX := hide (HB.out.trans (B2.out.mono HB.out.size))
      clear B2
      generalize wr.alloc (.cells #[.string na, .string nb] 46) = x at HRX HBX H2 hsz2 ⊢
      generalize wr.heap.size = bf at H2 hsz2 ⊢
      have e0 : x.cell? ⟨bf, 0, none⟩ = some (.string na) := cell_at H2.out 0
      have e1 : x.cell? ⟨bf, 1, none⟩ = some (.string nb) := cell_at H2.out 1
      have BD := hide ((Below.refl x.heap.size x).drew)
      have e0d : x.drew.cell? ⟨bf, 0, none⟩ = some (.string na) := e0
      have e1d : x.drew.cell? ⟨bf, 1, none⟩ = some (.string nb) := e1
      have HC1 := hide (fun W => clone_any na W (by omega))
      have HC2 := hide (fun W => clone_any nb W (by omega))
      go_region_law (first
        | (refine step_call rfl 26 _ _ rfl (enters_of Tryd.func26 (by kernel_rfl) rfl) #[.string na] (by simp [Act.eval]) _ (calls_ex (HC1.out x.drew)) ?_; rintro r w3 ⟨rfl, b3⟩; have B3 := hide (BD.out.trans b3); have e0 : w3.cell? ⟨bf, 0, none⟩ = some (.string na) := (b3.cell (p := ⟨bf, 0, none⟩) hsz2).trans e0d; have e1 : w3.cell? ⟨bf, 1, none⟩ = some (.string nb) := (b3.cell (p := ⟨bf, 1, none⟩) hsz2).trans e1d)
        | (refine step_call rfl 26 _ _ rfl (enters_of Tryd.func26 (by kernel_rfl) rfl) #[.string nb] (by simp [Act.eval]) _ (calls_ex (HC2.out w3)) ?_; rintro r w4 ⟨rfl, b4⟩; have B4 := hide (B3.out.trans (b4.mono B3.out.size)); obtain ⟨v', W', hrun, RW, BW⟩ := append_fld w4 w.heap.size 30 (.slice ra rn rc) (A.take k) (na, nb) (HRX.out.below B4.out) hln (Nat.le_trans HBX.out.size B4.out.size); obtain ⟨va, vn, vc, rfl⟩ : ∃ a n c, v' = .slice a n c := (by obtain ⟨a, c, h, _⟩ := RW.shape; exact ⟨a, _, c, h⟩))
        | (refine step_append_is rfl (.tmp 24) (.tmp 32) 30 rfl (.slice ra rn rc) (.slice (some ⟨w4.heap.size, 0, none⟩) 1 1) (.slice va vn vc) (by simp [Act.eval]) (by simp [Act.eval]) hrun ?_))
      all_goals (
        have R2 := hide RW
        have BX := hide (HBX.out.trans ((B4.out.mono HBX.out.size).trans BW))
        clear RW BW hrun e0 e1 e0d e1d
        go_wp2_with fail
        go_roundw
        case rel => exact ⟨k + 1, va, vn, vc, by omega, rfl, by go_num, hide (by rw [HSN.out]; exact R2.out), BX⟩
        case measure => simp [intOf]; omega)
    · obtain rfl : k = A.length := by omega
      have hr := HR.out
      rw [List.take_of_length_le (Nat.le_refl _)] at hr
      have R3 := hide hr
      clear hr hlt hk HR
      go_wp2_with fail
      go_ret
      exact ⟨_, rfl, R3.out, HB.out⟩
end Go.Proofs.YthciahpadninpaaDoor
/- Last, the program's and the document's; the document's Chunk. -/
namespace Go.Proofs.YthciahpadninpaaDoor
open Go.ChangeShapes Go.WideShapes Go.ChangeAt Go.RowKit

theorem strCells_bc (s : ByteArray) : Lib.strCells s = bc s.data.toList := rfl
theorem append_str (W : World) (base : Nat) (ty : TypeId) (v : Value) (O : List UInt8) (s : ByteArray) (hown : Row W base 5 v (bc O)) (hn : O.length + s.size ≤ 140737488355328) (hbase : base ≤ W.heap.size) :
    ∃ v' W', (Builtin.append_ #[29, 9] ty #[v, .string s]).run Tryd.prog W = .ok v' W' ∧ Row W' base 5 v' (bc (O ++ s.data.toList)) ∧ Below base W W' := by
  obtain ⟨i, hi, hz, hs1, hb1⟩ := infoB
  unfold Row at hown
  rw [bc_len] at hown
  obtain ⟨v', W', hr, h1, hg, _⟩ := Lib.run_append_own_string (P := Tryd.prog) W base 29 9 ty 5 i Tryd.underlying29 Tryd.underlying9 hi hz hs1 hb1 v O.length (bc O) hown s (by unfold maxLen; omega) (by omega) hbase
  refine ⟨v', W', hr, ?_, (Below.refl base W).grown hg hbase (fun k hk => (World.ownsRow.lt hown k hk).1)⟩
  unfold Row
  rw [bc_len, List.length_append, size_len, show bc (O ++ s.data.toList) = bc O ++ Lib.strCells s by simp [bc, strCells_bc]]
  exact h1
/-- A slice whose bytes fill its block. -/
def Tight (W : World) (v : Value) (O : List UInt8) : Prop := ∃ g, v = .slice (some ⟨g, 0, none⟩) O.length O.length ∧ g < W.heap.size ∧ ∀ j (h : j < O.length), W.cell? ⟨g, j, none⟩ = some (.int .u8 (O[j].toNat : Int))
theorem Tight.below {W W' : World} {v : Value} {O : List UInt8} (h : Tight W v O) (b : Below W.heap.size W W') : Tight W' v O := by
  obtain ⟨g, h1, h2, h3⟩ := h
  exact ⟨g, h1, Nat.lt_of_lt_of_le h2 b.size, fun j hj => (b.cell (p := ⟨g, j, none⟩) h2).trans (h3 j hj)⟩
theorem append_tight (W : World) (base : Nat) (ty : TypeId) (v : Value) (O : List UInt8) (s : ByteArray) (hT : Tight W v O) (h0 : 0 < s.size) (hn : O.length + s.size ≤ 1099511627776) (hbase : base ≤ W.heap.size) :
    ∃ v' W', (Builtin.append_ #[29, 9] ty #[v, .string s]).run Tryd.prog W = .ok v' W' ∧ Row W' base 5 v' (bc (O ++ s.data.toList)) ∧ Below base W W' := by
  obtain ⟨i, hi, hz, hs1, hb1⟩ := infoB
  obtain ⟨g, rfl, hg, hc⟩ := hT
  have hr := Lib.run_append_grow_string (P := Tryd.prog) W 29 9 ty 5 i (.int .u8 0) Tryd.underlying29 Tryd.underlying9 hi hz ⟨g, 0, none⟩ O.length O.length (bc O) (by rw [hs1, bc_len]; omega) (fun j u hj => by
    have hjl : j < O.length := by rw [← bc_len]; exact (List.getElem?_eq_some_iff.1 hj).1
    have e : (⟨g, 0, none⟩ : Addr).add j = ⟨g, j, none⟩ := by unfold Addr.add; split <;> simp_all
    rw [e, hc j hjl, ← hj]
    simp [bc, hjl]) s (by omega) (by omega) (by rw [hb1]; exact growslice_fits (by omega) (by omega))
  have hge := grownCap_ge W (O.length + s.size) O.length 5
  have hcm : grownCap W (O.length + s.size) O.length 5 ≤ maxLen := grownCap_le_maxLen W (O.length + s.size) O.length 5 (by unfold maxLen; omega)
  refine ⟨_, _, hr, ?_, ((Below.refl base W).drew).alloc hbase _⟩
  generalize grownCap W (O.length + s.size) O.length 5 = cap at hge hcm
  have hl : (bc (O ++ s.data.toList)).length = O.length + s.size := by rw [bc_len, List.length_append, size_len]
  unfold Row
  rw [hl]
  refine ⟨by rw [hl]; omega, .inr ⟨W.heap.size, cap, _, rfl, hbase, heap_alloc_new W.drew _, hge, hcm, ?_, ?_⟩⟩
  · have hz1 : (Value.int IntKind.u8 0).cells.size = 1 := rfl
    simp only [Array.size_append, List.size_toArray, size_zeroCells, hz1, bc_len, Lib.strCells_length]
    omega
  · simp only [Array.toList_append, Nat.mul_one]
    rw [show bc (O ++ s.data.toList) = bc O ++ Lib.strCells s by simp [bc, strCells_bc]]
    rw [List.take_append_of_le_length (by simp [bc_len, Lib.strCells_length]), List.take_of_length_le (by simp [bc_len, Lib.strCells_length])]
/-- A text that grows: a row, or what was just written out. -/
def Txt (W : World) (base : Nat) (v : Value) (O : List UInt8) : Prop := Row W base 5 v (bc O) ∨ Tight W v O
theorem Txt.below {W W' : World} {base : Nat} {v : Value} {O : List UInt8} (h : Txt W base v O) (b : Below W.heap.size W W') : Txt W' base v O := by
  rcases h with h | h
  · exact .inl (h.below b)
  · exact .inr (h.below b)
theorem Txt.shape {W : World} {base : Nat} {v : Value} {O : List UInt8} (h : Txt W base v O) : ∃ a c, v = .slice a O.length c := by
  rcases h with h | ⟨g, h, _⟩
  · obtain ⟨a, c, e, _⟩ := h.shape
    rw [bc_len] at e
    exact ⟨a, c, e⟩
  · exact ⟨_, _, h⟩
theorem wpList_append_txt {ops : Array Oper} {rest : List Oper} {o : Oper} {a : Act} {Q : Exit → Act → World → Prop} (hgd : o.guard = none) (sl x : Operand)
    (ho : o.op = .call { callee := .builtin .append, args := #[sl, x], argTypes := #[29, 9] }) (W : World) (base : Nat) (v : Value) (O : List UInt8) (s : ByteArray) (hs : a.eval sl = v) (hx : a.eval x = .string s)
    (hT : Txt W base v O) (h0 : 0 < s.size) (hn : O.length + s.size ≤ 1099511627776) (hbase : base ≤ W.heap.size)
    (h : ∀ v' W', Row W' base 5 v' (bc (O ++ s.data.toList)) → Below base W W' → wpList Tryd.prog ops Q rest (a.put o.dst v') W') : wpList Tryd.prog ops Q (o :: rest) a W := by
  refine wpList_plain hgd fun K hK => ?_
  obtain ⟨v', W', hr, h2, h3⟩ : ∃ v' W', (Builtin.append_ #[29, 9] o.type #[v, .string s]).run Tryd.prog W = .ok v' W' ∧ Row W' base 5 v' (bc (O ++ s.data.toList)) ∧ Below base W W' := by
    rcases hT with hT | hT
    · exact append_str W base o.type v O s hT (by omega) hbase
    · exact append_tight W base o.type v O s hT h0 hn hbase
  unfold Oper.wp execOp
  simp only [ho, resolve, invoke, builtin, Sem.run_bind, Sem.run_pure, Result.andThen_ok, List.map_toArray, List.map_cons, List.map_nil, hs, hx, hr]
  exact hK _ _ (h v' W' h2 h3)
theorem trl_len (f : ByteArray × ByteArray) : (trlL f).length = f.1.size + f.2.size + 4 := by unfold trlL; simp; omega
theorem trls_len {A : List (ByteArray × ByteArray)} (hs : Sm A) : ∀ k, k ≤ A.length → ((A.take k).flatMap trlL).length ≤ k * 2097156
  | 0, _ => by simp
  | k + 1, h => by
    have ih := trls_len hs k (by omega)
    have hz := hs.at k (by omega)
    rw [take_snocF A k (by omega), List.flatMap_append, List.length_append, List.flatMap_singleton, trl_len]
    omega
theorem flat_snoc {A : List (ByteArray × ByteArray)} {k : Nat} (h : k < A.length) : (A.take (k + 1)).flatMap trlL = (A.take k).flatMap trlL ++ trlL A[k] := by
  rw [take_snocF A k h, List.flatMap_append, List.flatMap_singleton]
set_option maxHeartbeats 8000000 in
set_option maxRecDepth 100000 in
theorem last_any (l : Value) (A : List (ByteArray × ByteArray)) (w : World) (hA : Flds w l A) (hs : Sm A) :
    Calls Tryd.prog 16 #[l] w fun e w' => ∃ v, e = .returned (.tuple #[v, .int .i64 (chkL A : Int)]) ∧ (chkL A = 0 → Row w' w.heap.size 5 v (bc (lastL A))) ∧ (chkL A ≠ 0 → v = .slice none 0 0) ∧ Below w.heap.size w w' := by
  have HF := hide hA
  have HK := hide (Check_any w l A hA hs)
  obtain ⟨la, lc, rfl, _, _⟩ := hA
  have HS := hide hs
  clear hs
  generalize hck : chkL A = ck at HK ⊢
  by_cases h0 : ck = 0
  · have t0 : ((ck : Int) != 0) = false := by rw [bne_eq_false_iff_eq]; omega
    have h100 := (chk_all (hck.trans h0)).1
    have H0 := hide h0
    clear h0 hck
    go_enter Tryd.func16, Tryd.ntmps16
    go_wp2_with fail
    refine HK.out.mono ?_
    rintro e w1 ⟨rfl, b1⟩
    have B1 := hide b1
    clear b1 HK
    have hcv : (convert 29 29 (.slice (some ⟨w1.heap.size, 0, none⟩) 3 3)).run Tryd.prog (w1.alloc (.cells #[.int .u8 48, .int .u8 13, .int .u8 10] 5)) = .ok (.slice (some ⟨w1.heap.size, 0, none⟩) 3 3) (w1.alloc (.cells #[.int .u8 48, .int .u8 13, .int .u8 10] 5 (3, 4))) := Lib.run_convert_bytes_const w1 29 5 #[.int .u8 48, .int .u8 13, .int .u8 10] 3 3 Tryd.underlying29 Tryd.underlying5
    go_wp2_with fail
    have hbl := hp_new w1 (.cells #[.int .u8 48, .int .u8 13, .int .u8 10] 5 (3, 4))
    have HT0 : Hid (Txt (w1.alloc (.cells #[.int .u8 48, .int .u8 13, .int .u8 10] 5 (3, 4))) w.heap.size (.slice (some ⟨w1.heap.size, 0, none⟩) 3 3) [48, 13, 10]) := hide (.inr ⟨w1.heap.size, rfl, lt_heap hbl, fun j hj => by
      rw [cell_at hbl]
      match j, hj with
      | 0, _ => rfl
      | 1, _ => rfl
      | 2, _ => rfl⟩)
    have B2 := hide (B1.out.trans (((Below.refl w1.heap.size w1).alloc (Nat.le_refl _) (.cells #[.int .u8 48, .int .u8 13, .int .u8 10] 5 (3, 4))).mono B1.out.size))
    clear hbl hcv B1
    generalize w1.alloc (.cells #[.int .u8 48, .int .u8 13, .int .u8 10] 5 (3, 4)) = x at HT0 B2 ⊢
    generalize w1.heap.size = bx at HT0 ⊢
    go_loopw [5, 17] (fun v i wr => ∃ (k : Nat) (ra : Option Addr) (rn rc : Nat), k ≤ A.length ∧ v = .slice ra rn rc ∧ i = .int .i64 k ∧ Hid (Txt wr w.heap.size (.slice ra rn rc) ([48, 13, 10] ++ (A.take k).flatMap trlL)) ∧ Hid (Below w.heap.size w wr)) (fun _ i _ => A.length - (intOf i).toNat)
    case atStart => exact ⟨0, _, _, _, Nat.zero_le _, rfl, rfl, hide (by simpa using HT0.out), B2⟩
    case round =>
      obtain ⟨k, ra, rn, rc, hk, rfl, rfl, HT, HB⟩ := hrel
      have HLN := hide (trls_len HS.out k hk)
      by_cases hlt : k < A.length
      · obtain ⟨a', c', he, _, hc⟩ := HF.out
        simp only [Value.slice.injEq] at he
        obtain ⟨rfl, _, rfl⟩ := he
        obtain ⟨b1, o1, rfl, hb1, q1, q2⟩ := hc k hlt
        have r1 : wr.cell? ⟨b1, o1 + k * 2, none⟩ = some (.string A[k].1) := (HB.out.cell (p := ⟨b1, o1 + k * 2, none⟩) hb1).trans q1
        have r2 : wr.cell? ⟨b1, o1 + k * 2 + 1, none⟩ = some (.string A[k].2) := (HB.out.cell (p := ⟨b1, o1 + k * 2 + 1, none⟩) hb1).trans q2
        have HSN := hide (flat_snoc hlt)
        have hz := HS.out.at k hlt
        generalize A[k] = f at r1 r2 HSN hz
        obtain ⟨na, nb⟩ := f
        dsimp only at r1 r2 hz
        obtain ⟨z1, z2⟩ := hz
        clear hc q1 q2
        go_upto_region 8 with fail
        have BA := hide ((Below.refl wr.heap.size wr).alloc (Nat.le_refl _) (.cells #[.string na, .string nb] 46))
        have H2 := hide (hp_new wr (.cells #[.string na, .string nb] 46))
        have HTX := hide (HT.out.below BA.out)
        have HBX := hide (HB.out.trans (BA.out.mono HB.out.size))
        clear BA HT HB r1 r2
        generalize wr.alloc (.cells #[.string na, .string nb] 46) = x at HTX HBX H2 ⊢
        generalize wr.heap.size = bf at H2 ⊢
        have e0 : x.cell? ⟨bf, 0, none⟩ = some (.string na) := cell_at H2.out 0
        have e1 : x.cell? ⟨bf, 1, none⟩ = some (.string nb) := cell_at H2.out 1
        have g2 : (⟨#[58, 32]⟩ : ByteArray).size = 2 := rfl
        have g3 : (⟨#[13, 10]⟩ : ByteArray).size = 2 := rfl
        have m1 : (na ++ (⟨#[58, 32]⟩ : ByteArray)).size ≤ 1048578 := by rw [app_size]; omega
        have m2 : (na ++ (⟨#[58, 32]⟩ : ByteArray) ++ nb).size ≤ 2097154 := by rw [app_size]; omega
        have m3 : (na ++ (⟨#[58, 32]⟩ : ByteArray) ++ nb ++ (⟨#[13, 10]⟩ : ByteArray)).size ≤ 2097156 := by rw [app_size]; omega
        have m4 : 0 < (na ++ (⟨#[58, 32]⟩ : ByteArray) ++ nb ++ (⟨#[13, 10]⟩ : ByteArray)).size := by rw [app_size]; omega
        have HTL : Hid ((na ++ (⟨#[58, 32]⟩ : ByteArray) ++ nb ++ (⟨#[13, 10]⟩ : ByteArray)).data.toList = trlL (na, nb)) := hide (by rw [app_list, app_list, app_list]; simp [trlL])
        go_wp2_with (at_builtin; apply Hid.out)
        unfold Hid
        refine wpList_append_txt rfl _ _ rfl x w.heap.size (.slice ra rn rc) ([48, 13, 10] ++ (A.take k).flatMap trlL) (na ++ (⟨#[58, 32]⟩ : ByteArray) ++ nb ++ (⟨#[13, 10]⟩ : ByteArray)) rfl rfl HTX.out m4 (by have := HLN.out; rw [List.length_append]; simp only [List.length_cons, List.length_nil]; omega) HBX.out.size ?_
        intro v' W1 O' B'
        obtain ⟨ra2, rn2, rc2, rfl⟩ : ∃ a n c, v' = .slice a n c := by
          obtain ⟨a, c, h, _⟩ := O'.shape
          exact ⟨a, _, c, h⟩
        have R2 := hide O'
        have BX := hide (HBX.out.trans B')
        clear O' B' e0 e1 m1 m2 m3 m4
        go_wp2_with fail
        exact ⟨⟨k + 1, ra2, rn2, rc2, by omega, rfl, by go_num, hide (.inl (by rw [HSN.out, ← List.append_assoc, ← HTL.out]; exact R2.out)), BX⟩, by simp [intOf]; omega⟩
      · obtain rfl : k = A.length := by omega
        have hr := HT.out
        rw [List.take_of_length_le (Nat.le_refl _)] at hr HLN
        have HT3 := hide hr
        clear hr hlt hk HT
        go_wp2_with (at_builtin; apply Hid.out)
        unfold Hid
        refine wpList_append_txt rfl _ _ rfl wr w.heap.size (.slice ra rn rc) ([48, 13, 10] ++ A.flatMap trlL) ⟨#[13, 10]⟩ rfl rfl HT3.out (by decide) (by have := HLN.out; rw [List.length_append, show (⟨#[13, 10]⟩ : ByteArray).size = 2 from rfl]; simp only [List.length_cons, List.length_nil]; omega) HB.out.size ?_
        intro v' W1 O' B'
        obtain ⟨ra2, rn2, rc2, rfl⟩ : ∃ a n c, v' = .slice a n c := by
          obtain ⟨a, c, h, _⟩ := O'.shape
          exact ⟨a, _, c, h⟩
        have R2 := hide O'
        have BX := hide (HB.out.trans B')
        clear O' B'
        go_wp2_with fail
        go_ret2
        exact ⟨_, by rw [H0.out]; rfl, fun _ => by
          have h := R2.out
          rw [List.append_assoc] at h
          exact h, fun h => absurd H0.out h, BX.out⟩
  · have t0 : ((ck : Int) != 0) = true := bne_iff_ne.2 (by omega)
    have H0 := hide h0
    clear h0 hck
    go_enter Tryd.func16, Tryd.ntmps16
    go_wp2_with fail
    refine HK.out.mono ?_
    rintro e w1 ⟨rfl, b1⟩
    have B1 := hide b1
    clear b1 HK
    go_wp2_with fail
    go_ret2
    exact ⟨_, rfl, fun h => absurd h H0.out, fun _ => rfl, B1.out⟩
end Go.Proofs.YthciahpadninpaaDoor
/- The document's Last and Chunk. -/
namespace Go.Proofs.YthciahpadninpaaDoor
open Go.ChangeShapes Go.WideShapes Go.ChangeAt Go.RowKit

theorem Bs.nil (W : World) (base : Nat) : Bs W base (.slice none 0 0) [] := ⟨none, 0, rfl, Nat.le_refl _, fun j hj => by simp at hj⟩
theorem Bs.of_row {w : World} {base : Nat} {v : Value} {l : List UInt8} (h : Row w base 5 v (bc l)) : Bs w w.heap.size v l := by
  obtain ⟨a, c, rfl, hc, _⟩ := h.shape
  rw [bc_len] at h hc
  refine ⟨a, c, by rw [bc_len], hc, fun j hj => ?_⟩
  obtain ⟨g, rfl, hcell⟩ := h.cell (j := j) (by rw [bc_len]; exact hj)
  have hg := (h.lt rfl).2
  refine ⟨g, 0, rfl, hg, hg, ?_⟩
  rw [Nat.zero_add, hcell]
  simp [bc, hj]
theorem Bs.text {w : World} {base : Nat} {v : Value} {l : List UInt8} (h : Bs w base v l) : (convert 29 9 v).run Tryd.prog w = .ok (.string (sS l)) w := by
  obtain ⟨a, c, rfl, _, hx⟩ := h
  cases l with
  | nil =>
    cases a with
    | none => exact run_convert_bytes_nil w 29 5 Tryd.underlying29 Tryd.underlying5 0 c 9 Tryd.underlying9
    | some ad => exact run_convert_bytes_back w 29 9 5 ad c [] Tryd.underlying29 Tryd.underlying5 Tryd.underlying9 (fun j hj => by simp at hj)
  | cons y r =>
    obtain ⟨g, o, rfl, _, _, _⟩ := hx 0 (by simp)
    refine run_convert_bytes_back w 29 9 5 ⟨g, o, none⟩ c (y :: r) Tryd.underlying29 Tryd.underlying5 Tryd.underlying9 (fun j hj => ?_)
    obtain ⟨g', o', h1, _, _, h4⟩ := hx j hj
    simp only [Option.some.injEq, Addr.mk.injEq] at h1
    obtain ⟨rfl, rfl, _⟩ := h1
    have e : (⟨g, o, none⟩ : Addr).add j = ⟨g, o + j, none⟩ := by unfold Addr.add; split <;> simp_all
    rw [e]
    exact h4
def lastS (A : List (ByteArray × ByteArray)) : ByteArray := sS (lastL A)
set_option maxHeartbeats 8000000 in
set_option maxRecDepth 100000 in
theorem rlast_any (l : Value) (A : List (ByteArray × ByteArray)) (w : World) (hA : Flds w l A) (hs : Sm A) :
    Calls Tryd.prog 17 #[l] w fun e w' => ∃ v, e = .returned (.tuple #[v, .int .i64 (chkL A : Int)]) ∧ Bs w' w'.heap.size v (if chkL A = 0 then lastL A else []) ∧ Below w.heap.size w w' := by
  have HF := hide hA
  have HK := hide (rCheck_any w l A hA hs)
  obtain ⟨la, lc, rfl, _, _⟩ := hA
  have HS := hide hs
  clear hs
  generalize hck : chkL A = ck at HK ⊢
  obtain ⟨Q, hQ⟩ : ∃ Q, (if ck = 0 then lastL A else []) = Q := ⟨_, rfl⟩
  rw [hQ]
  have HQ := hide hQ
  clear hQ
  by_cases h0 : ck = 0
  · have t0 : ((ck : Int) != 0) = false := by rw [bne_eq_false_iff_eq]; omega
    have h100 := (chk_all (hck.trans h0)).1
    have H0 := hide h0
    clear h0 hck
    go_enter Tryd.func17, Tryd.ntmps17
    go_wp2_with fail
    refine HK.out.mono ?_
    rintro e w1 ⟨rfl, b1⟩
    have B1 := hide b1
    clear b1 HK
    go_wp2_with fail
    go_loopw [5, 15] (fun v i wr => ∃ (k : Nat) (t : ByteArray), k ≤ A.length ∧ v = .string t ∧ i = .int .i64 k ∧ t.size ≤ 3 + k * 2097156 ∧ Hid (t.data.toList = [48, 13, 10] ++ (A.take k).flatMap trlL) ∧ Hid (Below w.heap.size w wr)) (fun _ i _ => A.length - (intOf i).toNat)
    case atStart => exact ⟨0, ⟨#[48, 13, 10]⟩, Nat.zero_le _, rfl, rfl, by decide, hide (by simp), B1⟩
    case round =>
      obtain ⟨k, t, hk, rfl, rfl, hts, HT, HB⟩ := hrel
      by_cases hlt : k < A.length
      · obtain ⟨a', c', he, _, hc⟩ := HF.out
        simp only [Value.slice.injEq] at he
        obtain ⟨rfl, _, rfl⟩ := he
        obtain ⟨b1, o1, rfl, hb1, q1, q2⟩ := hc k hlt
        have r1 : wr.cell? ⟨b1, o1 + k * 2, none⟩ = some (.string A[k].1) := (HB.out.cell (p := ⟨b1, o1 + k * 2, none⟩) hb1).trans q1
        have r2 : wr.cell? ⟨b1, o1 + k * 2 + 1, none⟩ = some (.string A[k].2) := (HB.out.cell (p := ⟨b1, o1 + k * 2 + 1, none⟩) hb1).trans q2
        have HSN := hide (flat_snoc hlt)
        have hz := HS.out.at k hlt
        generalize A[k] = f at r1 r2 HSN hz
        obtain ⟨na, nb⟩ := f
        dsimp only at r1 r2 hz
        obtain ⟨z1, z2⟩ := hz
        clear hc q1 q2
        go_upto_region 8 with fail
        have BA := hide ((Below.refl wr.heap.size wr).alloc (Nat.le_refl _) (.cells #[.string na, .string nb] 46))
        have H2 := hide (hp_new wr (.cells #[.string na, .string nb] 46))
        have HBX := hide (HB.out.trans (BA.out.mono HB.out.size))
        clear BA HB r1 r2
        generalize wr.alloc (.cells #[.string na, .string nb] 46) = x at HBX H2 ⊢
        generalize wr.heap.size = bf at H2 ⊢
        have e0 : x.cell? ⟨bf, 0, none⟩ = some (.string na) := cell_at H2.out 0
        have e1 : x.cell? ⟨bf, 1, none⟩ = some (.string nb) := cell_at H2.out 1
        have g2 : (⟨#[58, 32]⟩ : ByteArray).size = 2 := rfl
        have g3 : (⟨#[13, 10]⟩ : ByteArray).size = 2 := rfl
        have m0 : (t ++ na).size ≤ 3 + k * 2097156 + 1048576 := by rw [app_size]; omega
        have m1 : (t ++ na ++ (⟨#[58, 32]⟩ : ByteArray)).size ≤ 3 + k * 2097156 + 1048578 := by rw [app_size]; omega
        have m2 : (t ++ na ++ (⟨#[58, 32]⟩ : ByteArray) ++ nb).size ≤ 3 + k * 2097156 + 2097154 := by rw [app_size]; omega
        have m3 : (t ++ na ++ (⟨#[58, 32]⟩ : ByteArray) ++ nb ++ (⟨#[13, 10]⟩ : ByteArray)).size ≤ 3 + k * 2097156 + 2097156 := by rw [app_size]; omega
        have HTL : Hid ((t ++ na ++ (⟨#[58, 32]⟩ : ByteArray) ++ nb ++ (⟨#[13, 10]⟩ : ByteArray)).data.toList = [48, 13, 10] ++ (A.take (k + 1)).flatMap trlL) := hide (by rw [app_list, app_list, app_list, app_list, HT.out, HSN.out]; simp [trlL])
        go_wp2_with fail
        exact ⟨⟨k + 1, _, by omega, rfl, by go_num, by omega, HTL, HBX⟩, by simp [intOf]; omega⟩
      · obtain rfl : k = A.length := by omega
        have hr := HT.out
        rw [List.take_of_length_le (Nat.le_refl _)] at hr
        have HT3 := hide hr
        have g3 : (⟨#[13, 10]⟩ : ByteArray).size = 2 := rfl
        have m3 : (t ++ (⟨#[13, 10]⟩ : ByteArray)).size ≤ 5 + A.length * 2097156 := by rw [app_size]; omega
        have HTL : Hid ((t ++ (⟨#[13, 10]⟩ : ByteArray)).data.toList = Q) := hide (by rw [app_list, hr, ← HQ.out, if_pos H0.out]; simp [lastL])
        obtain ⟨cap, W, hcv, hbs, hbw⟩ := conv_bs wr (t ++ (⟨#[13, 10]⟩ : ByteArray))
        have HBS := hide hbs
        have BW := hide (HB.out.trans (hbw.mono HB.out.size))
        clear hr hlt hk HT hbs hbw
        go_wp2_with fail
        go_ret2
        exact ⟨_, by rw [H0.out]; rfl, by rw [← HTL.out]; have h := HBS.out; rw [app_size, g3] at h; exact h, BW.out⟩
  · have t0 : ((ck : Int) != 0) = true := bne_iff_ne.2 (by omega)
    have H0 := hide h0
    clear h0 hck
    go_enter Tryd.func17, Tryd.ntmps17
    go_wp2_with fail
    refine HK.out.mono ?_
    rintro e w1 ⟨rfl, b1⟩
    have B1 := hide b1
    clear b1 HK
    go_wp2_with fail
    go_ret2
    exact ⟨_, rfl, by rw [← HQ.out, if_neg H0.out]; exact Bs.nil _ _, B1.out⟩
set_option maxHeartbeats 8000000 in
set_option maxRecDepth 100000 in
theorem rchunk_any (v : Value) (b : List UInt8) (w : World) (hB : Bs w w.heap.size v b) (hS : Shp v) (hl : b.length ≤ 35184372088832) :
    Calls Tryd.prog 19 #[v] w fun e w' => ∃ u, e = .returned u ∧ Row w' w.heap.size 5 u (bc (chunkL b)) ∧ Below w.heap.size w w' := by
  have HB := hide hB
  have HS := hide hS
  obtain ⟨va, vc, rfl, _, _⟩ := hB
  clear hS
  by_cases h0 : b = []
  · subst h0
    go_enter Tryd.func19, Tryd.ntmps19
    go_wp2_with fail
    go_ret
    exact ⟨_, rfl, Row.nil _ _ _, Below.refl _ _⟩
  · have hpos : 0 < b.length := List.length_pos_iff.2 h0
    have t0 : ((b.length : Int) == 0) = false := by rw [beq_eq_false_iff_ne]; omega
    have HX := hide (rhex_any (b.length : Int) w)
    have hy := hexS_yes (n := b.length) (by omega)
    rw [hy.1, hy.2] at HX
    have h14 := hexD_len14 (n := b.length) (by omega)
    have HCL : Hid (chunkL b = hexD b.length ++ [13, 10] ++ b ++ [13, 10]) := hide (by unfold chunkL; rw [if_neg h0]; simp)
    clear hy h0
    have hsz : (⟨(hexD b.length).toArray⟩ : ByteArray).size ≤ 14 := by
      rw [← size_len]; simpa using h14
    have HTL : Hid ((⟨(hexD b.length).toArray⟩ : ByteArray).data.toList = hexD b.length) := hide (by simp)
    have hpx : 0 < (⟨(hexD b.length).toArray⟩ : ByteArray).size := by
      rw [← size_len]; simpa using hexD_pos b.length
    generalize hexD b.length = hx at HX h14 HCL hsz HTL hpx
    generalize (⟨hx.toArray⟩ : ByteArray) = hs at HX hsz HTL hpx
    go_enter Tryd.func19, Tryd.ntmps19
    go_wp2_with fail
    refine HX.out.mono ?_
    rintro e w1 ⟨rfl, rfl⟩
    clear HX
    go_wp2_with (at_builtin; apply Hid.out)
    unfold Hid
    refine wpList_append_txt rfl _ _ rfl w w.heap.size (.slice none 0 0) [] hs rfl rfl (.inl (Row.nil _ _ _)) hpx (by simp; omega) (Nat.le_refl _) ?_
    intro v1 W1 O1 B1'
    rw [List.nil_append, HTL.out] at O1
    obtain ⟨a1, n1, c1, rfl⟩ : ∃ a n c, v1 = .slice a n c := by
      obtain ⟨a, c, h, _⟩ := O1.shape
      exact ⟨a, _, c, h⟩
    have R1 := hide O1
    have B1 := hide B1'
    clear O1 B1'
    have BA := hide (B1.out.trans (((Below.refl W1.heap.size W1).alloc (Nat.le_refl _) (.cells #[.int .u8 13, .int .u8 10] 5)).mono B1.out.size))
    have RA := hide (R1.out.below ((Below.refl W1.heap.size W1).alloc (Nat.le_refl _) (.cells #[.int .u8 13, .int .u8 10] 5)))
    have SA := hide (bs_lit W1 [13, 10] #[.int .u8 13, .int .u8 10] (0, 0) rfl)
    go_wp2_with (at_builtin; apply Hid.out)
    unfold Hid
    refine wpList_append_bs_k rfl _ _ rfl (W1.alloc (.cells #[.int .u8 13, .int .u8 10] 5)) w.heap.size _ (.slice a1 n1 c1) (.slice (some ⟨W1.heap.size, 0, none⟩) 2 2) hx [13, 10] rfl rfl RA.out SA.out (.inr ⟨_, _, _, rfl⟩) (by simp; omega) BA.out.size ?_
    intro v2 W2 O2 B2' _
    obtain ⟨a2, n2, c2, rfl⟩ : ∃ a n c, v2 = .slice a n c := by
      obtain ⟨a, c, h, _⟩ := O2.shape
      exact ⟨a, _, c, h⟩
    have R2 := hide O2
    have B2 := hide (BA.out.trans B2')
    clear O2 B2' SA RA BA R1 B1
    go_wp2_with (at_builtin; apply Hid.out)
    unfold Hid
    refine wpList_append_bs_k rfl _ _ rfl W2 w.heap.size _ (.slice a2 n2 c2) (.slice va b.length vc) (hx ++ [13, 10]) b rfl rfl R2.out (HB.out.below B2.out.size B2.out) HS.out (by rw [List.length_append]; simp only [List.length_cons, List.length_nil]; omega) B2.out.size ?_
    intro v3 W3 O3 B3' _
    obtain ⟨a3, n3, c3, rfl⟩ : ∃ a n c, v3 = .slice a n c := by
      obtain ⟨a, c, h, _⟩ := O3.shape
      exact ⟨a, _, c, h⟩
    have R3 := hide O3
    have B3 := hide (B2.out.trans B3')
    clear O3 B3' R2 B2
    have BA := hide (B3.out.trans (((Below.refl W3.heap.size W3).alloc (Nat.le_refl _) (.cells #[.int .u8 13, .int .u8 10] 5)).mono B3.out.size))
    have RA := hide (R3.out.below ((Below.refl W3.heap.size W3).alloc (Nat.le_refl _) (.cells #[.int .u8 13, .int .u8 10] 5)))
    have SA := hide (bs_lit W3 [13, 10] #[.int .u8 13, .int .u8 10] (0, 0) rfl)
    go_wp2_with (at_builtin; apply Hid.out)
    unfold Hid
    refine wpList_append_bs_k rfl _ _ rfl (W3.alloc (.cells #[.int .u8 13, .int .u8 10] 5)) w.heap.size _ (.slice a3 n3 c3) (.slice (some ⟨W3.heap.size, 0, none⟩) 2 2) (hx ++ [13, 10] ++ b) [13, 10] rfl rfl RA.out SA.out (.inr ⟨_, _, _, rfl⟩) (by rw [List.length_append, List.length_append]; simp only [List.length_cons, List.length_nil]; omega) BA.out.size ?_
    intro v4 W4 O4 B4' _
    obtain ⟨a4, n4, c4, rfl⟩ : ∃ a n c, v4 = .slice a n c := by
      obtain ⟨a, c, h, _⟩ := O4.shape
      exact ⟨a, _, c, h⟩
    have R4 := hide O4
    have B4 := hide (BA.out.trans B4')
    clear O4 B4' SA RA BA R3 B3
    go_wp2_with fail
    go_ret
    exact ⟨_, rfl, by rw [HCL.out]; exact R4.out, B4.out⟩
end Go.Proofs.YthciahpadninpaaDoor
/- ChunkedWrites, walked. -/
namespace Go.Proofs.YthciahpadninpaaDoor
open Go.ChangeShapes Go.WideShapes Go.ChangeAt Go.RowKit

theorem wpAnyH_weaken {P : Program} {md : Region.Mode} {ops : Array Oper} {Q : Exit → Act → World → Prop} {S S' : World → Prop} (hS : ∀ w, S' w → S w) :
    ∀ (fuel : Nat) (listed : Array Bool) (a : Act) (w : World), wpAnyH P md ops Q S' fuel listed a w → wpAnyH P md ops Q S fuel listed a w
  | 0, _, _, _, h => h
  | fuel + 1, _, _, _, h => ⟨h.1, fun i hi => wpOp_mono (fun a' w' h' => ⟨hS w' h'.1, wpAnyH_weaken hS fuel _ a' w' h'.2⟩) (h.2 i hi)⟩
set_option maxHeartbeats 16000000 in
set_option maxRecDepth 100000 in
theorem writes_walk (v l : Value) (b : List UInt8) (A : List (ByteArray × ByteArray)) (w : World) (hB : Bs w w.heap.size v b) (hS : Shp v) (hA : Flds w l A) (hs : Sm A) (hl : b.length ≤ 1048576) (hm : MX w) (hdb : DB w) :
    Calls Tryd.prog 4 #[v, l] w fun e w' => e = .returned (.bool true) ∧ Below w.heap.size w w' := by
  have HM := hide hm
  have HDB := hide hdb
  have HB := hide hB
  have HSH := hide hS
  have HLA := hide (last_any l A w hA hs)
  have HRL := hide (fun W (h : Below w.heap.size w W) => rlast_any l A W (hA.below h) hs)
  obtain ⟨va, vc, rfl, _, _⟩ := hB
  obtain ⟨la, lc, rfl, _, _⟩ := hA
  clear hm hdb hS hs
  generalize hck : chkL A = ck at HLA HRL
  clear hck
  go_enter Tryd.func4, Tryd.ntmps4
  go_wp2_with fail
  refine HLA.out.mono ?_
  rintro e w1 ⟨vx, rfl, hx1, hx2, b1⟩
  have X1 : Hid (Bs w1 w1.heap.size vx (if ck = 0 then lastL A else [])) := hide (by
    by_cases h0 : ck = 0
    · rw [if_pos h0]; exact Bs.of_row (hx1 h0)
    · rw [if_neg h0, hx2 h0]; exact Bs.nil _ _)
  have B1 := hide b1
  have HR2 := hide (HRL.out w1 b1)
  clear hx1 hx2 b1 HLA HRL
  generalize (if ck = 0 then lastL A else []) = Q at X1 HR2
  obtain ⟨xa, xc, hxe, _, _⟩ := id X1.out
  subst hxe
  go_wp2_with fail
  refine HR2.out.mono ?_
  rintro e w2 ⟨vy, rfl, hy, b2⟩
  have X2 := hide (X1.out.below b2.size b2)
  have Y2 := hide hy
  have B2 := hide (B1.out.trans (b2.mono B1.out.size))
  obtain ⟨ya, yc, hye, _, _⟩ := id Y2.out
  subst hye
  clear hy b2 HR2 X1 B1
  go_upto_region 3 with fail
  have BD := hide ((Below.refl w2.heap.size w2).drew)
  have cS : Below w2.heap.size w2 w2.drew := BD.out
  refine wp_region_noPanic ?_
  refine wp_region_held_drew (S := fun W => Below w2.heap.size w2 W) (by kernel_rfl) cS (fun hHeld => ?_)
  refine wpAnyH_take (i := 0) (v := ?_) rfl (by kernel_rfl) (by kernel_rfl) (by kernel_rfl) (fun _ _ _ h => h) (Or.inl ⟨by rfl, ?_⟩) (by assumption) ?_
  rotate_left
  · (intro W hSw; (try dsimp only at hSw); go_simp; try with_reducible rfl)
  simp only [List.getElem_toArray, List.getElem_cons_zero, Act.put, List.setIfInBounds_toArray, List.set_cons_zero, List.set_cons_succ]
  refine wpAnyH_take (i := 3) (v := ?_) rfl (by kernel_rfl) (by kernel_rfl) (by kernel_rfl) (fun _ _ _ h => h) (Or.inl ⟨by rfl, ?_⟩) (by assumption) ?_
  rotate_left
  · (intro W hSw; (try dsimp only at hSw); go_simp; try with_reducible rfl)
  simp only [List.getElem_toArray, List.getElem_cons_zero, List.getElem_cons_succ, Act.put, List.setIfInBounds_toArray, List.set_cons_zero, List.set_cons_succ]
  refine wpAnyH_ready (rs := [1]) (by kernel_rfl) (by simp) ?_
  refine AllReadyH.cons rfl (fun K hK => ?_) AllReadyH.nil
  go_simp
  refine (chunk_any _ b w2.drew (HB.out.below (Nat.le_trans B2.out.size cS.size) (B2.out.trans (cS.mono B2.out.size))) HSH.out (by omega) (HDB.out.below (B2.out.trans (cS.mono B2.out.size)))).mono ?_
  rintro e w3 ⟨u3, rfl, hu3, b3⟩
  have R3 := hide (Bs.of_row hu3)
  have c3 : Below w2.heap.size w2 w3 := cS.trans (b3.mono cS.size)
  obtain ⟨ua, uc, hue, _, _⟩ := id R3.out
  subst hue
  clear hu3 b3 cS BD
  (try go_wp2_with fail)
  refine hK.out _ _ c3 (fun hHeld => ?_)
  clear hK K
  try simp only [List.getElem_toArray, List.getElem_cons_zero, List.getElem_cons_succ, Act.put, List.setIfInBounds_toArray, List.set_cons_zero, List.set_cons_succ]
  refine wpAnyH_weaken (S' := fun W => Below w3.heap.size w3 W) (fun W h => c3.trans (h.mono c3.size)) _ _ _ _ ?_
  have cS : Below w3.heap.size w3 w3 := Below.refl _ _
  refine wpAnyH_take (i := 2) (v := ?_) rfl (by kernel_rfl) (by kernel_rfl) (by kernel_rfl) (fun _ _ _ h => h) (Or.inl ⟨by rfl, ?_⟩) (by assumption) ?_
  rotate_left
  · (intro W hSw; have hc := (R3.out.below hSw.size hSw).text; go_simp; try with_reducible rfl)
  simp only [List.getElem_toArray, List.getElem_cons_zero, List.getElem_cons_succ, Act.put, List.setIfInBounds_toArray, List.set_cons_zero, List.set_cons_succ]
  refine wpAnyH_ready (rs := [4]) (by kernel_rfl) (by simp) ?_
  refine AllReadyH.cons rfl (fun K hK => ?_) AllReadyH.nil
  go_simp
  have BB := hide (B2.out.trans (c3.mono B2.out.size))
  refine (rchunk_any _ b w3 (HB.out.below BB.out.size BB.out) HSH.out (by omega)).mono ?_
  rintro e w4 ⟨u4, rfl, hu4, b4⟩
  have R4 := hide (Bs.of_row hu4)
  have c4 : Below w3.heap.size w3 w4 := b4
  obtain ⟨ta, tc, hte, _, _⟩ := id R4.out
  subst hte
  have X4 := hide (X2.out.below (Nat.le_trans c3.size c4.size) (c3.trans (c4.mono c3.size)))
  have Y4 := hide (Y2.out.below (Nat.le_trans c3.size c4.size) (c3.trans (c4.mono c3.size)))
  have B4 := hide (BB.out.trans (c4.mono BB.out.size))
  clear hu4 b4 cS BB
  (try go_wp2_with fail)
  refine hK.out _ _ c4 (fun hHeld => ?_)
  clear hK K
  try simp only [List.getElem_toArray, List.getElem_cons_zero, List.getElem_cons_succ, Act.put, List.setIfInBounds_toArray, List.set_cons_zero, List.set_cons_succ]
  refine wpAnyH_weaken (S' := fun W => Below w4.heap.size w4 W) (fun W h => c4.trans (h.mono c4.size)) _ _ _ _ ?_
  have cS : Below w4.heap.size w4 w4 := Below.refl _ _
  refine wpAnyH_take (i := 5) (v := ?_) rfl (by kernel_rfl) (by kernel_rfl) (by kernel_rfl) (fun _ _ _ h => h) (Or.inl ⟨by rfl, ?_⟩) (by assumption) ?_
  rotate_left
  · (intro W hSw; have hc := (R4.out.below hSw.size hSw).text; go_simp; try with_reducible rfl)
  simp only [List.getElem_toArray, List.getElem_cons_zero, List.getElem_cons_succ, Act.put, List.setIfInBounds_toArray, List.set_cons_zero, List.set_cons_succ]
  refine wpAnyH_take (i := 6) (v := .bool true) rfl (by kernel_rfl) (by kernel_rfl) (by kernel_rfl) (fun _ _ _ h => h) (Or.inl ⟨by rfl, ?_⟩) (by assumption) ?_
  · (intro W hSw; go_simp)
  simp only [List.getElem_toArray, List.getElem_cons_zero, List.getElem_cons_succ, Act.put, List.setIfInBounds_toArray, List.set_cons_zero, List.set_cons_succ]
  refine wpAnyH_take (i := 7) (v := ?_) rfl (by kernel_rfl) (by kernel_rfl) (by kernel_rfl) (fun _ _ _ h => h) (Or.inl ⟨by rfl, ?_⟩) (by assumption) ?_
  rotate_left
  · (intro W hSw; (try dsimp only at hSw); go_simp; try with_reducible rfl)
  simp only [List.getElem_toArray, List.getElem_cons_zero, List.getElem_cons_succ, Act.put, List.setIfInBounds_toArray, List.set_cons_zero, List.set_cons_succ]
  refine wpAnyH_take (i := 8) (v := ?_) rfl (by kernel_rfl) (by kernel_rfl) (by kernel_rfl) (fun _ _ _ h => h) (Or.inl ⟨by rfl, ?_⟩) (by assumption) ?_
  rotate_left
  · (intro W hSw; (try dsimp only at hSw); go_simp; try with_reducible rfl)
  simp only [List.getElem_toArray, List.getElem_cons_zero, List.getElem_cons_succ, Act.put, List.setIfInBounds_toArray, List.set_cons_zero, List.set_cons_succ]
  refine wpAnyH_take (i := 9) (v := ?_) rfl (by kernel_rfl) (by kernel_rfl) (by kernel_rfl) (fun _ _ _ h => h) (Or.inl ⟨by rfl, ?_⟩) (by assumption) ?_
  rotate_left
  · (intro W hSw; have hc := (X4.out.below hSw.size hSw).text; go_simp; try with_reducible rfl)
  simp only [List.getElem_toArray, List.getElem_cons_zero, List.getElem_cons_succ, Act.put, List.setIfInBounds_toArray, List.set_cons_zero, List.set_cons_succ]
  refine wpAnyH_take (i := 10) (v := ?_) rfl (by kernel_rfl) (by kernel_rfl) (by kernel_rfl) (fun _ _ _ h => h) (Or.inl ⟨by rfl, ?_⟩) (by assumption) ?_
  rotate_left
  · (intro W hSw; (try dsimp only at hSw); go_simp; try with_reducible rfl)
  simp only [List.getElem_toArray, List.getElem_cons_zero, List.getElem_cons_succ, Act.put, List.setIfInBounds_toArray, List.set_cons_zero, List.set_cons_succ]
  refine wpAnyH_take (i := 11) (v := ?_) rfl (by kernel_rfl) (by kernel_rfl) (by kernel_rfl) (fun _ _ _ h => h) (Or.inl ⟨by rfl, ?_⟩) (by assumption) ?_
  rotate_left
  · (intro W hSw; have hc := (Y4.out.below hSw.size hSw).text; go_simp; try with_reducible rfl)
  simp only [List.getElem_toArray, List.getElem_cons_zero, List.getElem_cons_succ, Act.put, List.setIfInBounds_toArray, List.set_cons_zero, List.set_cons_succ]
  refine wpAnyH_take (i := 12) (v := .bool true) rfl (by kernel_rfl) (by kernel_rfl) (by kernel_rfl) (fun _ _ _ h => h) (Or.inl ⟨by rfl, ?_⟩) (by assumption) ?_
  · (intro W hSw; go_simp)
  simp only [List.getElem_toArray, List.getElem_cons_zero, List.getElem_cons_succ, Act.put, List.setIfInBounds_toArray, List.set_cons_zero, List.set_cons_succ]
  refine wpAnyH_take (i := 13) (v := ?_) rfl (by kernel_rfl) (by kernel_rfl) (by kernel_rfl) (fun _ _ _ h => h) (Or.inl ⟨by rfl, ?_⟩) (by assumption) ?_
  rotate_left
  · (intro W hSw; (try dsimp only at hSw); go_simp; try with_reducible rfl)
  simp only [List.getElem_toArray, List.getElem_cons_zero, List.getElem_cons_succ, Act.put, List.setIfInBounds_toArray, List.set_cons_zero, List.set_cons_succ]
  refine wpAnyH_take (i := 14) (v := ?_) rfl (by kernel_rfl) (by kernel_rfl) (by kernel_rfl) (fun _ _ _ h => h) (Or.inl ⟨by rfl, ?_⟩) (by assumption) ?_
  rotate_left
  · (intro W hSw; (try dsimp only at hSw); go_simp; try with_reducible rfl)
  simp only [List.getElem_toArray, List.getElem_cons_zero, List.getElem_cons_succ, Act.put, List.setIfInBounds_toArray, List.set_cons_zero, List.set_cons_succ]
  refine wpAnyH_take (i := 15) (v := ?_) rfl (by kernel_rfl) (by kernel_rfl) (by kernel_rfl) (fun _ _ _ h => h) (Or.inl ⟨by rfl, ?_⟩) (by assumption) ?_
  rotate_left
  · (intro W hSw; (try dsimp only at hSw); go_simp; try with_reducible rfl)
  simp only [List.getElem_toArray, List.getElem_cons_zero, List.getElem_cons_succ, Act.put, List.setIfInBounds_toArray, List.set_cons_zero, List.set_cons_succ]
  refine wpAnyH_take (i := 16) (v := ?_) rfl (by kernel_rfl) (by kernel_rfl) (by kernel_rfl) (fun _ _ _ h => h) (Or.inl ⟨by rfl, ?_⟩) (by assumption) ?_
  rotate_left
  · (intro W hSw; (try dsimp only at hSw); go_simp; try with_reducible rfl)
  simp only [List.getElem_toArray, List.getElem_cons_zero, List.getElem_cons_succ, Act.put, List.setIfInBounds_toArray, List.set_cons_zero, List.set_cons_succ]
  refine wpAnyH_take (i := 17) (v := .bool true) rfl (by kernel_rfl) (by kernel_rfl) (by kernel_rfl) (fun _ _ _ h => h) (Or.inl ⟨by rfl, ?_⟩) (by assumption) ?_
  · (intro W hSw; go_simp)
  simp only [List.getElem_toArray, List.getElem_cons_zero, List.getElem_cons_succ, Act.put, List.setIfInBounds_toArray, List.set_cons_zero, List.set_cons_succ]
  refine wpAnyH_take (i := 18) (v := ?_) rfl (by kernel_rfl) (by kernel_rfl) (by kernel_rfl) (fun _ _ _ h => h) (Or.inl ⟨by rfl, ?_⟩) (by assumption) ?_
  rotate_left
  · (intro W hSw; (try dsimp only at hSw); go_simp; try with_reducible rfl)
  simp only [List.getElem_toArray, List.getElem_cons_zero, List.getElem_cons_succ, Act.put, List.setIfInBounds_toArray, List.set_cons_zero, List.set_cons_succ]
  refine wpAnyH_take (i := 19) (v := ?_) rfl (by kernel_rfl) (by kernel_rfl) (by kernel_rfl) (fun _ _ _ h => h) (Or.inl ⟨by rfl, ?_⟩) (by assumption) ?_
  rotate_left
  · (intro W hSw; (try dsimp only at hSw); go_simp; try with_reducible rfl)
  simp only [List.getElem_toArray, List.getElem_cons_zero, List.getElem_cons_succ, Act.put, List.setIfInBounds_toArray, List.set_cons_zero, List.set_cons_succ]
  refine wpAnyH_ready (rs := [20]) (by kernel_rfl) (by simp) ?_
  refine AllReadyH.cons rfl (fun K hK => ?_) AllReadyH.nil
  go_simp
  refine (speaks_any w4 (HM.out.below B4.out) (HDB.out.below B4.out)).mono ?_
  rintro e w5 ⟨rfl, b5⟩
  have B5 := hide (B4.out.trans (b5.mono B4.out.size))
  have c5 : Below w4.heap.size w4 w5 := b5
  clear b5 cS
  (try go_wp2_with fail)
  refine hK.out _ _ c5 (fun hHeld => ?_)
  clear hK K
  try simp only [List.getElem_toArray, List.getElem_cons_zero, List.getElem_cons_succ, Act.put, List.setIfInBounds_toArray, List.set_cons_zero, List.set_cons_succ]
  refine wpAnyH_take (i := 21) (v := ?_) rfl (by kernel_rfl) (by kernel_rfl) (by kernel_rfl) (fun _ _ _ h => h) (Or.inl ⟨by rfl, ?_⟩) c5 ?_
  rotate_left
  · (intro W hSw; (try dsimp only at hSw); go_simp; try with_reducible rfl)
  simp only [List.getElem_toArray, List.getElem_cons_zero, List.getElem_cons_succ, Act.put, List.setIfInBounds_toArray, List.set_cons_zero, List.set_cons_succ]
  refine wpAnyH_take (i := 22) (v := ?_) rfl (by kernel_rfl) (by kernel_rfl) (by kernel_rfl) (fun _ _ _ h => h) (Or.inl ⟨by rfl, ?_⟩) c5 ?_
  rotate_left
  · (intro W hSw; (try dsimp only at hSw); go_simp; try with_reducible rfl)
  simp only [List.getElem_toArray, List.getElem_cons_zero, List.getElem_cons_succ, Act.put, List.setIfInBounds_toArray, List.set_cons_zero, List.set_cons_succ]
  refine wpAnyH_done (by kernel_rfl) ?_ _
  clear hHeld
  refine NoPanic.normal ?_
  go_wp2
  go_ret
  exact ⟨rfl, B5.out⟩
end Go.Proofs.YthciahpadninpaaDoor
