/- A set of hosts: its block and its rows; what is counted of it. -/
import Derived.Test.YtobkgkcemdocnaaPSr
namespace Go.Proofs.Ytobkgkcemdocnaa
open Go.ChangeShapes Go.WideShapes Go.ChangeAt Go.RowKit

/-- A host: healthy, ejected, until when, failures in a row, how often ejected. -/
structure HR where
  h : Bool
  e : Bool
  u : Int
  f : Int
  t : Int
/-- As the program keeps it (n = false), as the document does (n = true: sick in place of healthy). -/
def enc (n : Bool) (r : HR) : List Value := [.bool (n ^^ r.h), .bool r.e, .int .i64 r.u, .int .i64 r.f, .int .i64 r.t]
theorem enc_len (n : Bool) (r : HR) : (enc n r).length = 5 := rfl
def flat (n : Bool) (L : List HR) : List Value := L.flatMap (enc n)
theorem flat_len (n : Bool) : ∀ L : List HR, (flat n L).length = L.length * 5
  | [] => rfl
  | a :: r => by
    have := flat_len n r
    unfold flat at this ⊢
    rw [List.flatMap_cons, List.length_append, enc_len, this, List.length_cons]
    omega
theorem flat_at (n : Bool) : ∀ (L : List HR) (i j : Nat) (r : HR), L[i]? = some r → j < 5 → (flat n L)[i * 5 + j]? = (enc n r)[j]?
  | [], i, j, r, h, _ => by simp at h
  | a :: l, 0, j, r, h, hj => by
    simp at h
    subst h
    unfold flat
    rw [List.flatMap_cons, Nat.zero_mul, Nat.zero_add, List.getElem?_append_left (by rw [enc_len]; exact hj)]
  | a :: l, i + 1, j, r, h, hj => by
    rw [List.getElem?_cons_succ] at h
    have := flat_at n l i j r h hj
    unfold flat at this ⊢
    rw [List.flatMap_cons, List.getElem?_append_right (by rw [enc_len]; omega), enc_len, ← this]
    congr 1
    omega
theorem flat_set (n : Bool) : ∀ (L : List HR) (i j : Nat) (r r' : HR) (v : Value), L[i]? = some r → j < 5 → enc n r' = (enc n r).set j v → (flat n L).set (i * 5 + j) v = flat n (L.set i r')
  | [], i, j, r, r', v, h, _, _ => by simp at h
  | a :: l, 0, j, r, r', v, h, hj, he => by
    simp at h
    subst h
    unfold flat
    rw [List.set_cons_zero, List.flatMap_cons, List.flatMap_cons, Nat.zero_mul, Nat.zero_add, List.set_append_left _ _ (by rw [enc_len]; exact hj), he]
  | a :: l, i + 1, j, r, r', v, h, hj, he => by
    rw [List.getElem?_cons_succ] at h
    have := flat_set n l i j r r' v h hj he
    unfold flat at this ⊢
    rw [List.set_cons_succ, List.flatMap_cons, List.flatMap_cons, List.set_append_right _ _ (by rw [enc_len]; omega), enc_len, ← this]
    congr 2
    omega

/-- A set of hosts: its numbers' block b and its rows' block g. -/
structure HsB (T R : TypeId) (n : Bool) (fl bs lo sh la : Int) (L : List HR) (b g : Nat) (w : World) : Prop where
  B : w.heap[b]? = some (.cells #[.int .i64 fl, .int .i64 bs, .int .i64 lo, .int .i64 sh, .int .i64 la, .slice (some ⟨g, 0, none⟩) L.length L.length] T (0, 0))
  G : w.heap[g]? = some (.cells (flat n L).toArray R (0, 0))
  ne : g ≠ b
def HsT (T R : TypeId) (n : Bool) (fl bs lo sh la : Int) (L : List HR) (b g : Nat) : Thing := fun w P => HsB T R n fl bs lo sh la L b g w ∧ ∀ k, P k ↔ (k = b ∨ k = g)
instance HsT.ob (T R : TypeId) (n : Bool) (fl bs lo sh la : Int) (L : List HR) (b g : Nat) : Ob (HsT T R n fl bs lo sh la L b g) := by
  refine ⟨fun w w' P Q h F d => ⟨⟨F.hd (d b ((h.2 b).2 (.inl rfl))) h.1.B, F.hd (d g ((h.2 g).2 (.inr rfl))) h.1.G, h.1.ne⟩, h.2⟩, fun w P k h hk => ?_⟩
  rcases (h.2 k).1 hk with rfl | rfl
  · exact hp_lt h.1.B
  · exact hp_lt h.1.G
section
variable {T R : TypeId} {n : Bool} {fl bs lo sh la : Int} {L : List HR} {b g : Nat} {w : World}
theorem HsB.fr (h : HsB T R n fl bs lo sh la L b g w) {w' : World} (F : Fr none' w w') : HsB T R n fl bs lo sh la L b g w' := ⟨F.hd id h.B, F.hd id h.G, h.ne⟩
theorem HsB.cB (h : HsB T R n fl bs lo sh la L b g w) : w.cell? ⟨b, 0, none⟩ = some (.int .i64 fl) ∧ w.cell? ⟨b, 1, none⟩ = some (.int .i64 bs) ∧ w.cell? ⟨b, 2, none⟩ = some (.int .i64 lo) ∧ w.cell? ⟨b, 3, none⟩ = some (.int .i64 sh) ∧ w.cell? ⟨b, 4, none⟩ = some (.int .i64 la) ∧ w.cell? ⟨b, 5, none⟩ = some (.slice (some ⟨g, 0, none⟩) L.length L.length) ∧ w.frozen? ⟨b, 4, none⟩ = false :=
  ⟨cell_of h.B 0, cell_of h.B 1, cell_of h.B 2, cell_of h.B 3, cell_of h.B 4, cell_of h.B 5, frozen_of h.B 4⟩
theorem HsB.cG (h : HsB T R n fl bs lo sh la L b g w) {i : Nat} {r : HR} (hr : L[i]? = some r) : w.cell? ⟨g, i * 5, none⟩ = some (.bool (n ^^ r.h)) ∧ w.cell? ⟨g, i * 5 + 1, none⟩ = some (.bool r.e) ∧ w.cell? ⟨g, i * 5 + 2, none⟩ = some (.int .i64 r.u) ∧ w.cell? ⟨g, i * 5 + 3, none⟩ = some (.int .i64 r.f) ∧ w.cell? ⟨g, i * 5 + 4, none⟩ = some (.int .i64 r.t) := by
  have k : ∀ j, j < 5 → w.cell? ⟨g, i * 5 + j, none⟩ = (enc n r)[j]? := fun j hj => by
    rw [cell_of h.G, List.getElem?_toArray, flat_at n L i j r hr hj]
  exact ⟨k 0 (by omega), k 1 (by omega), k 2 (by omega), k 3 (by omega), k 4 (by omega)⟩
theorem HsB.fz (h : HsB T R n fl bs lo sh la L b g w) (i : Nat) : w.frozen? ⟨g, i, none⟩ = false := frozen_of h.G i
theorem HsB.setG (h : HsB T R n fl bs lo sh la L b g w) {i j : Nat} {r r' : HR} {v : Value} (hr : L[i]? = some r) (hj : j < 5) (he : enc n r' = (enc n r).set j v) : HsB T R n fl bs lo sh la (L.set i r') b g (w.setCell ⟨g, i * 5 + j, none⟩ v) := by
  refine ⟨?_, ?_, h.ne⟩
  · rw [hp_set_other _ _ _ _ _ (fun e => h.ne e.symm), List.length_set]; exact h.B
  · have := hp_set h.G (i * 5 + j) v
    rw [List.setIfInBounds_toArray, flat_set n L i j r r' v hr hj he] at this
    exact this
theorem HsB.at (h : HsB T R n fl bs lo sh la L b g w) (t : Int) : HsB T R n fl bs lo sh t L b g (w.setCell ⟨b, 4, none⟩ (.int .i64 t)) := by
  refine ⟨hp_set h.B 4 _, ?_, h.ne⟩
  rw [hp_set_other _ _ _ _ _ h.ne]; exact h.G
end
abbrev Hp (fl bs lo sh la : Int) (L : List HR) (b g : Nat) (w : World) : Prop := HsB 52 54 false fl bs lo sh la L b g w

theorem count_any (w : World) (fl bs lo sh la : Int) (L : List HR) (b g : Nat) (h : Hp fl bs lo sh la L b g w) :
    Calls Try.prog 27 #[.pointer (some ⟨b, 0, none⟩)] w fun e w' => e = .returned (.int .i64 (L.length : Int)) ∧ w = w' := by
  obtain ⟨c0, c1, c2, c3, c4, c5, f4⟩ := h.cB
  clear h
  generalize L.length = n at *
  go_enter Try.func27, Try.ntmps27
  go_wp2
  go_ret
  exact ⟨rfl, rfl⟩
theorem count_nil (w : World) : Calls Try.prog 27 #[.pointer none] w fun e w' => e = .returned (.int .i64 0) ∧ w = w' := by
  go_enter Try.func27, Try.ntmps27
  go_wp2
  go_ret
  exact ⟨rfl, rfl⟩
def hasB (n : Nat) (host : Int) : Bool := decide (0 ≤ host ∧ host < (n : Int))
theorem has_any (w : World) (fl bs lo sh la : Int) (L : List HR) (b g : Nat) (host : Int) (h : Hp fl bs lo sh la L b g w) :
    Calls Try.prog 26 #[.pointer (some ⟨b, 0, none⟩), .int .i64 host] w fun e w' => e = .returned (.bool (hasB L.length host)) ∧ w = w' := by
  have HC := hide (count_any w fl bs lo sh la L b g h)
  clear h
  obtain ⟨n, Hn⟩ : ∃ n, Hid (L.length = n) := ⟨_, hide rfl⟩
  rw [Hn.out] at HC ⊢
  by_cases h0 : 0 ≤ host
  · go_enter Try.func26, Try.ntmps26
    go_wp2_with (go_at_call 27; refine HC.out.mono ?_; rintro e w' ⟨rfl, rfl⟩)
    go_ret
    exact ⟨ret_bool (by unfold hasB; simp [h0]), rfl⟩
  · go_enter Try.func26, Try.ntmps26
    go_wp2_with (go_at_call 27; refine HC.out.mono ?_; rintro e w' ⟨rfl, rfl⟩)
    go_ret
    exact ⟨ret_bool (by unfold hasB; simp; omega), rfl⟩
theorem has_nil (w : World) (host : Int) : Calls Try.prog 26 #[.pointer none, .int .i64 host] w fun e w' => e = .returned (.bool false) ∧ w = w' := by
  by_cases h0 : 0 ≤ host
  · have h1 : decide (host < 0) = false := decide_eq_false (by omega)
    go_enter Try.func26, Try.ntmps26
    go_wp2_with (go_at_call 27; refine (count_nil _).mono ?_; rintro e w' ⟨rfl, rfl⟩)
    go_ret
    exact ⟨ret_bool (by first | rfl | (simp; done) | (simp; omega)), rfl⟩
  · go_enter Try.func26, Try.ntmps26
    go_wp2_with (go_at_call 27; refine (count_nil _).mono ?_; rintro e w' ⟨rfl, rfl⟩)
    go_ret
    exact ⟨ret_bool (by first | rfl | (simp; omega)), rfl⟩
theorem get_take {L : List HR} {i : Nat} (hi : i < L.length) : L[i]? = some L[i] := List.getElem?_eq_getElem hi
/-- How many are ejected. -/
def nE (L : List HR) : Nat := L.countP (fun r => r.e)
theorem nE_take {L : List HR} {i : Nat} (hi : i < L.length) : nE (L.take (i + 1)) = nE (L.take i) + (if L[i].e then 1 else 0) := by
  rw [List.take_add_one, get_take hi]
  unfold nE
  rw [List.countP_append]
  simp [List.countP_cons]
theorem nE_le (L : List HR) : nE L ≤ L.length := List.countP_le_length

set_option maxHeartbeats 1000000 in
theorem ejected_any (w : World) (fl bs lo sh la : Int) (L : List HR) (b g : Nat) (h : Hp fl bs lo sh la L b g w) (hl : L.length ≤ 16) :
    Calls Try.prog 14 #[.pointer (some ⟨b, 0, none⟩)] w fun e w' => e = .returned (.int .i64 (nE L : Int)) ∧ w = w' := by
  have HC := hide (count_any w fl bs lo sh la L b g h)
  obtain ⟨c0, c1, c2, c3, c4, c5, f4⟩ := h.cB
  have HH := hide h
  clear h
  obtain ⟨n, Hn⟩ : ∃ n, Hid (L.length = n) := ⟨_, hide rfl⟩
  rw [Hn.out] at HC hl c5
  go_enter Try.func14, Try.ntmps14
  go_wp2_with fail
  refine HC.out.mono ?_
  rintro e w' ⟨rfl, rfl⟩
  go_wp2_with fail
  go_loopw [3, 7] (fun u v wr => ∃ (i m : Nat), i ≤ n ∧ m ≤ i ∧ v = .int .i64 (i : Int) ∧ u = .int .i64 (m : Int) ∧ Hid (nE (L.take i) = m) ∧ w = wr) (fun _ v _ => n - (intOf v).toNat)
  case atStart => exact ⟨0, 0, Nat.zero_le _, Nat.zero_le _, rfl, rfl, hide rfl, rfl⟩
  case round =>
    obtain ⟨i, m, hi, hmi, rfl, rfl, HM, rfl⟩ := hrel
    by_cases hlt : i < n
    · have hli : i < L.length := by rw [Hn.out]; exact hlt
      obtain ⟨g0, g1, g2, g3, g4⟩ := HH.out.cG (get_take hli)
      have HT := hide (nE_take hli)
      rw [HM.out] at HT
      generalize L[i] = r at *
      clear g0 g2 g3 g4
      cases he : r.e with
      | true =>
        rw [he] at g1 HT
        go_wp2_with fail
        go_roundw
        case rel => exact ⟨i + 1, m + 1, by omega, by omega, by go_num, by go_num, HT, trivial⟩
        case measure => simp [intOf]; omega
      | false =>
        rw [he] at g1 HT
        go_wp2_with fail
        go_roundw
        case rel => exact ⟨i + 1, m, by omega, by omega, by go_num, rfl, HT, trivial⟩
        case measure => simp [intOf]; omega
    · obtain rfl : i = n := by omega
      have e : L.take i = L := by rw [← Hn.out]; exact List.take_length
      rw [e] at HM
      go_wp2_with fail
      go_ret
      exact ⟨ret_int (by rw [HM.out]), rfl⟩
theorem ejected_nil (w : World) : Calls Try.prog 14 #[.pointer none] w fun e w' => e = .returned (.int .i64 0) ∧ w = w' := by
  go_enter Try.func14, Try.ntmps14
  go_wp2_with (go_at_call 27; refine (count_nil _).mono ?_; rintro e w' ⟨rfl, rfl⟩)
  go_loopw [3, 7] (fun u v wr => u = .int .i64 0 ∧ v = .int .i64 0 ∧ w = wr) (fun _ _ _ => 0)
  case atStart => exact ⟨rfl, rfl, rfl⟩
  case round =>
    obtain ⟨rfl, rfl, rfl⟩ := hrel
    go_wp2_with fail
    go_ret
    exact ⟨rfl, rfl⟩
/-- Does the share let one more be ejected? -/
def roomB (sh : Int) (L : List HR) : Bool := decide (100 * ((nE L : Int) + 1) ≤ sh * (L.length : Int))
set_option maxHeartbeats 1000000 in
theorem room_any (w : World) (fl bs lo sh la : Int) (L : List HR) (b g : Nat) (h : Hp fl bs lo sh la L b g w) (hl : L.length ≤ 16) (s0 : 0 ≤ sh) (s1 : sh ≤ 100) :
    Calls Try.prog 29 #[.pointer (some ⟨b, 0, none⟩)] w fun e w' => e = .returned (.bool (roomB sh L)) ∧ ∃ q, w' = w.drewN q := by
  have HC := hide (fun q => (count_any (w.drewN q) fl bs lo sh la L b g (h.fr (Fr.drewN _ _ _))).mono (R' := fun e w' => e = .returned (.int .i64 (L.length : Int)) ∧ w' = w.drewN q) (fun e w' ⟨x, y⟩ => ⟨x, y.symm⟩))
  have HE := hide (fun q => (ejected_any (w.drewN q) fl bs lo sh la L b g (h.fr (Fr.drewN _ _ _)) hl).mono (R' := fun e w' => e = .returned (.int .i64 (nE L : Int)) ∧ w' = w.drewN q) (fun e w' ⟨x, y⟩ => ⟨x, y.symm⟩))
  obtain ⟨c0, c1, c2, c3, c4, c5, f4⟩ := h.cB
  have hm := Nat.le_trans (nE_le L) hl
  obtain ⟨R, HR⟩ : ∃ R, Hid (roomB sh L = R) := ⟨_, hide rfl⟩
  rw [HR.out]
  unfold roomB at HR
  clear h
  generalize L.length = n at *
  generalize nE L = m at *
  have x0 : 0 ≤ sh * (n : Int) := Int.mul_nonneg s0 (by omega)
  have x1 : sh * (n : Int) ≤ 1600 := by have := Int.mul_le_mul s1 (show (n : Int) ≤ 16 by omega) (by omega) (by omega : (0:Int) ≤ 100); omega
  go_enter Try.func29, Try.ntmps29
  go_wp2_with fail
  go_quiet (first | (go_at_call 14; refine Calls.quiet_of_same (HE.out _)) | (go_at_call 27; refine Calls.quiet_of_same (HC.out _)))
  go_wp2_with fail
  go_ret
  exact ⟨ret_bool HR.out, _, rfl⟩
end Go.Proofs.Ytobkgkcemdocnaa
