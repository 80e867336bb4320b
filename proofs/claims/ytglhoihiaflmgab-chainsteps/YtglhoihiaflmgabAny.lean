/- Put, Peek, Take and Drop at every chain and every argument, each by one contract. -/
import Derived.Test.YtglhoihiaflmgabBytes
namespace Go.Proofs.Ytglhoihiaflmgab
open Go.ChangeShapes Go.WideShapes Go.ChangeAt Go.RowKit

/-- Where a slice's bytes lie, if it has any. -/
def Lies (v : Value) (P : Nat → Prop) : Prop := ∀ b off n c, v = .slice (some ⟨b, off, none⟩) n c → 0 < n → P b

theorem bs_all (l : List Int) : (bs l).toList.take l.length = l.map (fun x => Value.int .u8 x) := by
  unfold bs
  rw [List.take_of_length_le (by simp)]
def kPut (X : List Int) (bound l : Nat) : Nat := min X.length (bound - l)
def putStop (stop : Bool) (high l k : Nat) : Bool := stop || (decide (0 < k) && decide (high ≤ l + k))
def dropStop (stop : Bool) (low l k : Nat) : Bool := if k = 0 then stop else stop && decide (low < l - k)

theorem put_any {w : World} {b r bound high low : Nat} {L : List Int} {stop : Bool} (h : Chain w b r bound high low L stop) (src : Value) (X : List Int) (hs : Sl w src X) (hl : Lies src (fun i => i ≠ b ∧ i ≠ r ∧ i < w.heap.size)) (hlen : X.length ≤ 9223372036854775807) :
    Calls Try.prog 11 #[.pointer (some ⟨b, 0, none⟩), src] w fun e w' => e = .returned (.int .i64 (kPut X bound L.length : Int)) ∧ Fr (fun i => i = b ∨ i = r) w w' ∧
      ∃ r', Chain w' b r' bound high low (L ++ X.take (kPut X bound L.length)) (putStop stop high L.length (kPut X bound L.length)) ∧ (r' = r ∨ w.heap.size ≤ r') := by
  obtain ⟨a, cap, rfl, hc, hn, hcell⟩ := hs
  by_cases hk : kPut X bound L.length = 0
  · rw [hk]
    have fin : ∀ e w', (e = Ending.returned (.int .i64 0) ∧ ∃ n, w.drewN n = w') → (e = .returned (.int .i64 ((0 : Nat) : Int)) ∧ Fr (fun i => i = b ∨ i = r) w w' ∧ ∃ r', Chain w' b r' bound high low (L ++ X.take 0) (putStop stop high L.length 0) ∧ (r' = r ∨ w.heap.size ≤ r')) := by
      rintro e w' ⟨rfl, n, rfl⟩
      refine ⟨rfl, Fr.drewN _ _ _, r, ?_, .inl rfl⟩
      have e1 : putStop stop high L.length 0 = stop := by simp [putStop]
      rw [e1, List.take_zero, List.append_nil]
      exact h.drewN n
    unfold kPut at hk
    by_cases h0 : X.length = 0
    · rw [h0]
      exact (put_zero h a cap).mono fin
    · exact (put_full h a X.length cap (by have := h.fits; omega)).mono fin
  · obtain ⟨sb, so, rfl, _⟩ := hcell 0 (by unfold kPut at hk; omega)
    have hh := hl sb so X.length cap rfl (by unfold kPut at hk; omega)
    refine (put_some h X sb so cap (kPut X bound L.length) hh.1 hh.2.1 hlen hc hh.2.2 (fun j hj => ?_) (by omega) rfl).mono ?_
    · obtain ⟨b', o', e, hx⟩ := hcell j hj
      simp only [Option.some.injEq, Addr.mk.injEq] at e
      obtain ⟨rfl, rfl, _⟩ := e
      exact hx
    · rintro e w' ⟨he, hf, r', hC, hr⟩
      refine ⟨he, hf, r', ?_, hr⟩
      have e1 : putStop stop high L.length (kPut X bound L.length) = (stop || decide (high ≤ L.length + kPut X bound L.length)) := by
        unfold putStop; rw [decide_eq_true (by omega : 0 < kPut X bound L.length)]; simp
      rw [e1]; exact hC

theorem peek_any {w : World} {b r bound high low : Nat} {L : List Int} {stop : Bool} (h : Chain w b r bound high low L stop) (n : Int) :
    Calls Try.prog 16 #[.pointer (some ⟨b, 0, none⟩), .int .i64 n] w fun e w' => ∃ v, e = .returned v ∧ Fr (fun _ => False) w w' ∧ Sl w' v (L.take (kOf n L.length)) ∧ Lies v (fun i => i = w.heap.size ∧ i < w'.heap.size) ∧
      (v = .slice none 0 0 ∧ kOf n L.length = 0 ∧ w = w' ∨ v = .slice (some ⟨w.heap.size, 0, none⟩) (kOf n L.length) (kOf n L.length) ∧ 0 < kOf n L.length ∧ w'.heap[w.heap.size]? = some (.cells (bs (L.take (kOf n L.length))) 5 (0, 0))) := by
  by_cases hk : kOf n L.length = 0
  · refine (peek_zero h n hk).mono ?_
    rintro e w' ⟨rfl, rfl⟩
    refine ⟨_, rfl, Fr.refl _ _, ?_, fun b off n c e => by simp at e, .inl ⟨rfl, hk, rfl⟩⟩
    rw [hk, List.take_zero]; exact Sl.nil w
  · refine (peek_some h n _ rfl (by omega)).mono ?_
    rintro e w' ⟨rfl, M⟩
    have el : (L.take (kOf n L.length)).length = kOf n L.length := by unfold kOf; simp
    refine ⟨_, rfl, M.fr, ?_, ?_, .inr ⟨rfl, by omega, M.row⟩⟩
    · have := Sl.row (cap := kOf n L.length) (l := L.take (kOf n L.length)) M.row (by rw [el]; exact Nat.le_refl _) (bs_all _)
      rw [el] at this
      exact this
    · intro b off n c e _
      simp only [Value.slice.injEq, Option.some.injEq, Addr.mk.injEq] at e
      have := M.sz
      omega

theorem drop_any {w : World} {b r bound high low : Nat} {L : List Int} {stop : Bool} (h : Chain w b r bound high low L stop) (n : Int) :
    Calls Try.prog 15 #[.pointer (some ⟨b, 0, none⟩), .int .i64 n] w fun e w' => e = .returned (.int .i64 (kOf n L.length : Int)) ∧ Fr (fun i => i = b) w w' ∧ Chain w' b r bound high low (L.drop (kOf n L.length)) (dropStop stop low L.length (kOf n L.length)) := by
  by_cases hk : kOf n L.length = 0
  · refine (drop_zero h n hk).mono ?_
    rintro e w' ⟨rfl, rfl⟩
    rw [hk]
    exact ⟨rfl, Fr.refl _ _, by simpa [dropStop] using h⟩
  · refine (drop_some h n _ rfl (by omega)).mono ?_
    rintro e w' ⟨he, hf, hC⟩
    refine ⟨he, hf, ?_⟩
    unfold dropStop
    rw [if_neg hk]
    exact hC

theorem take_any {w : World} {b r bound high low : Nat} {L : List Int} {stop : Bool} (h : Chain w b r bound high low L stop) (n : Int) :
    Calls Try.prog 13 #[.pointer (some ⟨b, 0, none⟩), .int .i64 n] w fun e w' => ∃ v, e = .returned v ∧ Fr (fun i => i = b) w w' ∧ Sl w' v (L.take (kOf n L.length)) ∧ Lies v (fun i => i = w.heap.size ∧ i < w'.heap.size) ∧
      Chain w' b r bound high low (L.drop (kOf n L.length)) (dropStop stop low L.length (kOf n L.length)) := by
  by_cases hk : kOf n L.length = 0
  · refine (take_zero h n hk).mono ?_
    rintro e w' ⟨rfl, rfl⟩
    refine ⟨_, rfl, Fr.refl _ _, ?_, fun b off n c e => by simp at e, ?_⟩
    · rw [hk, List.take_zero]; exact Sl.nil w
    · rw [hk]; simpa [dropStop] using h
  · refine (take_some h n _ rfl (by omega)).mono ?_
    rintro e w' ⟨rfl, hf, hz, hrow, hC⟩
    have el : (L.take (kOf n L.length)).length = kOf n L.length := by unfold kOf; simp
    refine ⟨_, rfl, hf, ?_, ?_, ?_⟩
    · have := Sl.row (cap := kOf n L.length) (l := L.take (kOf n L.length)) hrow (by rw [el]; exact Nat.le_refl _) (bs_all _)
      rw [el] at this
      exact this
    · intro b off n c e _
      simp only [Value.slice.injEq, Option.some.injEq, Addr.mk.injEq] at e
      omega
    · unfold dropStop
      rw [if_neg hk]
      exact hC
end Go.Proofs.Ytglhoihiaflmgab
