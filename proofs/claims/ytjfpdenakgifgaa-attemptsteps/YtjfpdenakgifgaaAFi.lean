/- The least of moments, as the program and as the document tell it. -/
import Derived.Test.YtjfpdenakgifgaaARd
namespace Go.Proofs.Ytjfpdenakgifgaa
open Go.ChangeShapes Go.WideShapes Go.ChangeAt Go.RowKit
set_option linter.unusedVariables false

def stepF (s : Int × Bool) (t : Int) : Int × Bool := if mom t = true ∧ (s.2 = false ∨ t < s.1) then (t, true) else s
def firstR (l : List Int) : Int × Bool := l.foldl stepF (0, false)
theorem firstR_snoc (l : List Int) (k : Nat) (h : k < l.length) : firstR (l.take (k + 1)) = stepF (firstR (l.take k)) (l.getD k 0) := by
  unfold firstR
  rw [List.take_succ_eq_append_getElem h, List.foldl_append]
  simp [List.getD, h]

set_option maxHeartbeats 400000 in
theorem first_any (b off len cap : Nat) (zs : List Int) (w : World) (hl : len ≤ maxLen) (hz : zs.length = len)
    (hcell : ∀ i, i < len → w.cell? ⟨b, off + i, none⟩ = some (.int .i64 (zs.getD i 0))) :
    Calls Try.prog 42 #[.slice (some ⟨b, off, none⟩) len cap] w fun e w' => e = .returned (.tuple #[.int .i64 (firstR zs).1, .bool (firstR zs).2]) ∧ w = w' := by
  unfold maxLen at hl
  have HZ : Hid (zs.length = len) := hz
  clear hz
  go_enter Try.func42, Try.ntmps42
  go_wp2
  go_loop [4, 5, 10] (fun l f i => ∃ k : Nat, k ≤ len ∧ i = .int .i64 k ∧ l = .int .i64 (firstR (zs.take k)).1 ∧ f = .bool (firstR (zs.take k)).2) (fun _ _ i => len - (intOf i).toNat)
  case atStart => exact ⟨0, Nat.zero_le _, rfl, rfl, rfl⟩
  case round =>
    obtain ⟨k, hk, rfl, rfl, rfl⟩ := hrel
    by_cases hlt : k < len
    · have hc := hcell k hlt
      have HS : Hid (firstR (zs.take (k + 1)) = stepF (firstR (zs.take k)) (zs.getD k 0)) := firstR_snoc zs k (by rw [HZ.out]; exact hlt)
      clear hcell
      generalize firstR (zs.take k) = s at HS
      obtain ⟨m, f⟩ := s
      generalize zs.getD k 0 = z at HS hc
      by_cases hm : mom z = true
      · cases f
        · go_wp2_with (go_at_call 57; refine (isMoment_any _ _).mono ?_; rintro e w' ⟨rfl, rfl⟩)
          go_round
          case rel => exact ⟨k + 1, by omega, by go_num, by rw [HS.out]; simp [stepF, hm], by rw [HS.out]; simp [stepF, hm]⟩
          case measure => simp [intOf]; omega
        · by_cases hzm : z < m
          · have HP : Hid (stepF (m, true) z = (z, true)) := by unfold Hid; simp [stepF, hm, hzm]
            go_wp2_with (go_at_call 57; refine (isMoment_any _ _).mono ?_; rintro e w' ⟨rfl, rfl⟩)
            go_round
            case rel => exact ⟨k + 1, by omega, by go_num, by rw [HS.out, HP.out], by rw [HS.out, HP.out]⟩
            case measure => simp [intOf]; omega
          · have HP : Hid (stepF (m, true) z = (m, true)) := by unfold Hid; simp [stepF, hzm]
            go_wp2_with (go_at_call 57; refine (isMoment_any _ _).mono ?_; rintro e w' ⟨rfl, rfl⟩)
            go_round
            case rel => exact ⟨k + 1, by omega, by go_num, by rw [HS.out, HP.out], by rw [HS.out, HP.out]⟩
            case measure => simp [intOf]; omega
      · have hm : mom z = false := by simpa using hm
        go_wp2_with (go_at_call 57; refine (isMoment_any _ _).mono ?_; rintro e w' ⟨rfl, rfl⟩)
        go_round
        case rel => exact ⟨k + 1, by omega, by go_num, by rw [HS.out]; simp [stepF, hm], by rw [HS.out]; simp [stepF, hm]⟩
        case measure => simp [intOf]; omega
    · have ek : k = len := by omega
      subst ek
      clear hcell
      have HT : Hid (zs.take k = zs) := List.take_of_length_le (by rw [HZ.out]; exact Nat.le_refl _)
      go_wp2
      go_ret2
      exact ⟨ret2_ib (by rw [HT.out]) (by rw [HT.out]), rfl⟩


def lp (zs : List Int) (i k : Nat) : Bool := decide (mom (zs.getD i 0) = true ∧ ∀ j, j < k → (mom (zs.getD j 0) = false ∨ zs.getD i 0 < zs.getD j 0 ∨ (zs.getD i 0 = zs.getD j 0 ∧ i ≤ j)))
theorem lp_zero (zs : List Int) (i : Nat) : lp zs i 0 = mom (zs.getD i 0) := by simp [lp]
theorem lp_succ_false (zs : List Int) (i k : Nat) (h : lp zs i k = false) : lp zs i (k + 1) = false := by
  simp only [lp, decide_eq_false_iff_not] at h ⊢
  exact fun ⟨a, b⟩ => h ⟨a, fun j hj => b j (by omega)⟩
theorem lp_succ_true (zs : List Int) (i k : Nat) (h : lp zs i k = true) (hk : mom (zs.getD k 0) = false ∨ zs.getD i 0 < zs.getD k 0 ∨ (zs.getD i 0 = zs.getD k 0 ∧ i ≤ k)) : lp zs i (k + 1) = true := by
  simp only [lp, decide_eq_true_eq] at h ⊢
  refine ⟨h.1, fun j hj => ?_⟩
  by_cases e : j = k
  · subst e; exact hk
  · exact h.2 j (by omega)
theorem lp_succ_not (zs : List Int) (i k : Nat) (hk : ¬ (mom (zs.getD k 0) = false ∨ zs.getD i 0 < zs.getD k 0 ∨ (zs.getD i 0 = zs.getD k 0 ∧ i ≤ k))) : lp zs i (k + 1) = false := by
  simp only [lp, decide_eq_false_iff_not]
  exact fun ⟨_, b⟩ => hk (b k (by omega))

theorem no_least {t u : Int} {i j : Nat} (h : mom u = true) (k : ¬ (t < u ∨ (t = u ∧ i ≤ j))) : ¬ (mom u = false ∨ t < u ∨ (t = u ∧ i ≤ j)) := by
  rintro (a | a)
  · rw [h] at a; cases a
  · exact k a

theorem firstR_spec (zs : List Int) : ((firstR zs).2 = true ∧ mom (firstR zs).1 = true ∧ (firstR zs).1 ∈ zs ∧ ∀ u ∈ zs, mom u = true → (firstR zs).1 ≤ u) ∨ (firstR zs = (0, false) ∧ ∀ u ∈ zs, mom u = false) := by
  have gen : ∀ (l pre : List Int) (s : Int × Bool), ((s.2 = true ∧ mom s.1 = true ∧ s.1 ∈ pre ∧ ∀ u ∈ pre, mom u = true → s.1 ≤ u) ∨ (s = (0, false) ∧ ∀ u ∈ pre, mom u = false)) →
      (((l.foldl stepF s).2 = true ∧ mom (l.foldl stepF s).1 = true ∧ (l.foldl stepF s).1 ∈ pre ++ l ∧ ∀ u ∈ pre ++ l, mom u = true → (l.foldl stepF s).1 ≤ u) ∨ (l.foldl stepF s = (0, false) ∧ ∀ u ∈ pre ++ l, mom u = false)) := by
    intro l
    induction l with
    | nil => intro pre s h; simpa using h
    | cons t l ih =>
      intro pre s h
      have e : pre ++ t :: l = (pre ++ [t]) ++ l := by simp
      rw [e, List.foldl_cons]
      apply ih
      obtain ⟨m, f⟩ := s
      by_cases hc : mom t = true ∧ (f = false ∨ t < m)
      · have es : stepF (m, f) t = (t, true) := by simp only [stepF]; rw [if_pos hc]
        rw [es]
        left
        refine ⟨rfl, hc.1, by simp, ?_⟩
        intro u hu hmu
        rcases List.mem_append.1 hu with hu | hu
        · rcases h with ⟨h1, h2, h3, h4⟩ | ⟨h1, h2⟩
          · have := h4 u hu hmu
            rcases hc.2 with hf | hf
            · simp [hf] at h1
            · show t ≤ u
              have : m ≤ u := this
              omega
          · simp [h2 u hu] at hmu
        · simp at hu; subst hu; exact Int.le_refl _
      · have es : stepF (m, f) t = (m, f) := by simp only [stepF]; rw [if_neg hc]
        rw [es]
        rcases h with ⟨h1, h2, h3, h4⟩ | ⟨h1, h2⟩
        · left
          refine ⟨h1, h2, by simp; exact .inl h3, ?_⟩
          intro u hu hmu
          rcases List.mem_append.1 hu with hu | hu
          · exact h4 u hu hmu
          · simp at hu; subst hu
            have hf : f = true := h1
            by_cases hlt : u < m
            · exact absurd ⟨hmu, .inr hlt⟩ hc
            · show m ≤ u
              omega
        · right
          refine ⟨h1, ?_⟩
          intro u hu
          rcases List.mem_append.1 hu with hu | hu
          · exact h2 u hu
          · simp at hu; subst hu
            have hf : f = false := by simpa using congrArg Prod.snd h1
            cases hmu : mom u
            · rfl
            · exact absurd ⟨hmu, .inl hf⟩ hc
  simpa [firstR] using gen zs [] (0, false) (.inr ⟨rfl, by simp⟩)

theorem mem_at {zs : List Int} {x : Int} (h : x ∈ zs) : ∃ j, j < zs.length ∧ zs.getD j 0 = x := by
  obtain ⟨j, hj, e⟩ := List.mem_iff_getElem.1 h
  exact ⟨j, hj, by simp [List.getD, hj, e]⟩
theorem at_mem {zs : List Int} {j : Nat} (h : j < zs.length) : zs.getD j 0 ∈ zs := by
  simp [List.getD, h]

theorem lp_found (zs : List Int) (i : Nat) (hi : i < zs.length) (h : lp zs i zs.length = true) : firstR zs = (zs.getD i 0, true) := by
  simp only [lp, decide_eq_true_eq] at h
  obtain ⟨hm, ha⟩ := h
  rcases firstR_spec zs with ⟨h1, h2, h3, h4⟩ | ⟨_, h2⟩
  · obtain ⟨j, hj, e⟩ := mem_at h3
    have l1 := h4 _ (at_mem hi) hm
    have l2 := ha j hj
    rw [e] at l2
    have e1 : (firstR zs).1 = zs.getD i 0 := by
      rcases l2 with l2 | l2 | l2
      · simp [h2] at l2
      · omega
      · exact l2.1.symm
    exact Prod.ext e1 h1
  · have := h2 _ (at_mem hi)
    rw [this] at hm; cases hm

theorem least_index (zs : List Int) (m : Int) : ∀ n j, j < n → j < zs.length → zs.getD j 0 = m → ∃ i, i < zs.length ∧ zs.getD i 0 = m ∧ ∀ k, k < i → zs.getD k 0 ≠ m := by
  intro n
  induction n with
  | zero => intro j hj; omega
  | succ n ih =>
    intro j hj hl e
    by_cases h : ∃ k, k < j ∧ zs.getD k 0 = m
    · obtain ⟨k, hk, ek⟩ := h
      exact ih k (by omega) (by omega) ek
    · exact ⟨j, hl, e, fun k hk ek => h ⟨k, hk, ek⟩⟩

theorem lp_none (zs : List Int) (h : ∀ i, i < zs.length → lp zs i zs.length = false) : firstR zs = (0, false) := by
  rcases firstR_spec zs with ⟨h1, h2, h3, h4⟩ | ⟨h1, _⟩
  · obtain ⟨j, hj, e⟩ := mem_at h3
    obtain ⟨i, hi, ei, hmin⟩ := least_index zs _ (j + 1) j (by omega) hj e
    have := h i hi
    simp only [lp, decide_eq_false_iff_not] at this
    refine absurd ⟨by rw [ei]; exact h2, fun k hk => ?_⟩ this
    cases hmk : mom (zs.getD k 0)
    · exact .inl rfl
    · right
      have l := h4 _ (at_mem hk) hmk
      rw [ei]
      by_cases eq : (firstR zs).1 = zs.getD k 0
      · right
        refine ⟨eq, ?_⟩
        by_cases hki : k < i
        · exact absurd eq.symm (hmin k hki)
        · omega
      · left; omega
  · exact h1

set_option maxHeartbeats 1000000 in
theorem rfirst_any (b off len cap : Nat) (zs : List Int) (w : World) (hl : len ≤ maxLen) (hz : zs.length = len)
    (hcell : ∀ i, i < len → w.cell? ⟨b, off + i, none⟩ = some (.int .i64 (zs.getD i 0))) :
    Calls Try.prog 43 #[.slice (some ⟨b, off, none⟩) len cap] w fun e w' => e = .returned (.tuple #[.int .i64 (firstR zs).1, .bool (firstR zs).2]) ∧ w = w' := by
  unfold maxLen at hl
  have HZ : Hid (zs.length = len) := hz
  clear hz
  have HC : Hid (∀ i, i < len → w.cell? ⟨b, off + i, none⟩ = some (.int .i64 (zs.getD i 0))) := hcell
  clear hcell
  go_enter Try.func43, Try.ntmps43
  go_wp2
  go_loop [11] (fun i => ∃ k : Nat, k ≤ len ∧ i = .int .i64 k ∧ Hid (∀ j, j < k → lp zs j len = false)) (fun i => len - (intOf i).toNat)
  case atStart => exact ⟨0, Nat.zero_le _, rfl, fun j hj => by omega⟩
  case round =>
    obtain ⟨i, hi, rfl, HP⟩ := hrel
    by_cases hlt : i < len
    · obtain ⟨t, HT⟩ : ∃ t, Hid (zs.getD i 0 = t) := ⟨_, rfl⟩
      have hc : w.cell? ⟨b, off + i, none⟩ = some (.int .i64 t) := by rw [← HT.out]; exact HC.out i hlt
      go_wp2_with (go_at_call 25; refine (moment_any _ _).mono ?_; rintro e w' ⟨rfl, rfl⟩)
      go_loop [6, 20] (fun l k => ∃ j : Nat, j ≤ len ∧ k = .int .i64 j ∧ l = .bool (lp zs i j)) (fun _ k => len - (intOf k).toNat)
      case atStart => exact ⟨0, Nat.zero_le _, rfl, by rw [lp_zero, HT.out]⟩
      case round =>
        obtain ⟨j, hj, rfl, rfl⟩ := hrel
        by_cases hjt : j < len
        · obtain ⟨u, HU⟩ : ∃ u, Hid (zs.getD j 0 = u) := ⟨_, rfl⟩
          have hcj : w.cell? ⟨b, off + j, none⟩ = some (.int .i64 u) := by rw [← HU.out]; exact HC.out j hjt
          cases hs : lp zs i j
          · have HN : Hid (lp zs i (j + 1) = false) := lp_succ_false zs i j hs
            clear hs hc
            go_wp2_with (go_at_call 25; refine (moment_any _ _).mono ?_; rintro e w' ⟨rfl, rfl⟩)
            go_round
            case rel => exact ⟨j + 1, by omega, by go_num, by rw [HN.out]⟩
            case measure => simp [intOf]; omega
          · cases hmu : mom u
            · have HN : Hid (lp zs i (j + 1) = true) := lp_succ_true zs i j hs (by rw [HU.out]; exact .inl hmu)
              clear hs hc
              go_wp2_with (go_at_call 25; refine (moment_any _ _).mono ?_; rintro e w' ⟨rfl, rfl⟩)
              go_round
              case rel => exact ⟨j + 1, by omega, by go_num, by rw [HN.out]⟩
              case measure => simp [intOf]; omega
            · by_cases htu : t < u
              · have HN : Hid (lp zs i (j + 1) = true) := lp_succ_true zs i j hs (by rw [HU.out, HT.out]; exact .inr (.inl htu))
                clear hs hc
                go_wp2_with (go_at_call 25; refine (moment_any _ _).mono ?_; rintro e w' ⟨rfl, rfl⟩)
                go_round
                case rel => exact ⟨j + 1, by omega, by go_num, by rw [HN.out]⟩
                case measure => simp [intOf]; omega
              · by_cases hte : t = u
                · have hq : (t == u) = true := by simpa using hte
                  by_cases hij : i ≤ j
                  · have HN : Hid (lp zs i (j + 1) = true) := lp_succ_true zs i j hs (by rw [HU.out, HT.out]; exact .inr (.inr ⟨hte, hij⟩))
                    clear hs hc hte
                    go_wp2_with (go_at_call 25; refine (moment_any _ _).mono ?_; rintro e w' ⟨rfl, rfl⟩)
                    go_round
                    case rel => exact ⟨j + 1, by omega, by go_num, by rw [HN.out]⟩
                    case measure => simp [intOf]; omega
                  · have HN : Hid (lp zs i (j + 1) = false) := lp_succ_not zs i j (by rw [HU.out, HT.out]; exact no_least hmu (by omega))
                    clear hs hc hte
                    go_wp2_with (go_at_call 25; refine (moment_any _ _).mono ?_; rintro e w' ⟨rfl, rfl⟩)
                    go_round
                    case rel => exact ⟨j + 1, by omega, by go_num, by rw [HN.out]; simp; omega⟩
                    case measure => simp [intOf]; omega
                · have hq : (t == u) = false := by simpa using hte
                  have HN : Hid (lp zs i (j + 1) = false) := lp_succ_not zs i j (by rw [HU.out, HT.out]; exact no_least hmu (by omega))
                  clear hs hc hte
                  go_wp2_with (go_at_call 25; refine (moment_any _ _).mono ?_; rintro e w' ⟨rfl, rfl⟩)
                  go_round
                  case rel => exact ⟨j + 1, by omega, by go_num, by rw [HN.out]; simp; omega⟩
                  case measure => simp [intOf]; omega
        · have ej : j = len := by omega
          subst ej
          cases hs : lp zs i j
          · have HN : Hid (lp zs i j = false) := hs
            clear hs hc
            go_wp2
            go_round
            case rel =>
              refine ⟨i + 1, by omega, by go_num, fun k hk => ?_⟩
              by_cases e : k = i
              · subst e; exact HN.out
              · exact HP.out k (by omega)
            case measure => simp [intOf]; omega
          · have HN : Hid (firstR zs = (zs.getD i 0, true)) := lp_found zs i (by rw [HZ.out]; exact hlt) (by rw [HZ.out]; exact hs)
            clear hs hc
            go_wp2
            go_ret2
            exact ⟨ret2_ib (by rw [HN.out]; exact HT.out.symm) (by rw [HN.out]), rfl⟩
    · have ei : i = len := by omega
      subst ei
      have HN : Hid (firstR zs = (0, false)) := lp_none zs (by rw [HZ.out]; exact HP.out)
      go_wp2
      go_ret2
      exact ⟨ret2_ib (by rw [HN.out]) (by rw [HN.out]), rfl⟩

theorem first_zero (a : Option Addr) (cap : Nat) (w : World) : Calls Try.prog 42 #[.slice a 0 cap] w fun e w' => e = .returned (.tuple #[.int .i64 0, .bool false]) ∧ w = w' := by
  go_enter Try.func42, Try.ntmps42
  go_wp2
  go_loop [4, 5, 10] (fun l f i => l = .int .i64 0 ∧ f = .bool false ∧ i = .int .i64 0) (fun _ _ _ => 0)
  case atStart => exact ⟨rfl, rfl, rfl⟩
  case round =>
    obtain ⟨rfl, rfl, rfl⟩ := hrel
    go_wp2
    go_ret2
    exact ⟨rfl, rfl⟩

theorem rfirst_zero (a : Option Addr) (cap : Nat) (w : World) : Calls Try.prog 43 #[.slice a 0 cap] w fun e w' => e = .returned (.tuple #[.int .i64 0, .bool false]) ∧ w = w' := by
  go_enter Try.func43, Try.ntmps43
  go_wp2
  go_loop [11] (fun i => i = .int .i64 0) (fun _ => 0)
  case atStart => rfl
  case round =>
    subst hrel
    go_wp2
    go_ret2
    exact ⟨rfl, rfl⟩

/-- A row's least moment. -/
theorem row_first {w : World} {v : Value} {zs : List Int} (h : Rw 3 1 w v zs.length zs) (hl : zs.length ≤ 64) :
    (Calls Try.prog 42 #[v] w fun e w' => e = .returned (.tuple #[.int .i64 (firstR zs).1, .bool (firstR zs).2]) ∧ w = w') ∧ (Calls Try.prog 43 #[v] w fun e w' => e = .returned (.tuple #[.int .i64 (firstR zs).1, .bool (firstR zs).2]) ∧ w = w') := by
  cases zs with
  | nil =>
    obtain ⟨a, cap, rfl, -, -⟩ := h.shape
    exact ⟨first_zero a cap w, rfirst_zero a cap w⟩
  | cons x xs =>
    obtain ⟨g, off, cap, rfl, -, h2, -⟩ := h.at (i := 0) (by simp)
    have hc : ∀ i, i < (x :: xs).length → w.cell? ⟨g, off + i, none⟩ = some (.int .i64 ((x :: xs).getD i 0)) := fun i hi => by
      obtain ⟨g', off', cap', e, -, -, r⟩ := int_cell h (i := i) (x := (x :: xs).getD i 0) (by rw [List.getD_eq_getElem?_getD, List.getElem?_eq_getElem hi]; rfl)
      simp only [Value.slice.injEq, Option.some.injEq, Addr.mk.injEq, and_true] at e
      obtain ⟨⟨rfl, rfl⟩, -⟩ := e
      exact r
    exact ⟨first_any g off _ cap _ w (by unfold maxLen; omega) rfl hc, rfirst_any g off _ cap _ w (by unfold maxLen; omega) rfl hc⟩
end Go.Proofs.Ytjfpdenakgifgaa
