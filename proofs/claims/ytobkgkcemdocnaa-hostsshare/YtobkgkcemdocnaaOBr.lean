/- A set of hosts that is brought to a moment. -/
import Derived.Test.YtobkgkcemdocnaaOHst
namespace Go.Proofs.Ytobkgkcemdocnaa
open Go.ChangeShapes Go.WideShapes Go.ChangeAt Go.RowKit

def bE (now : Int) : Int := if mom now then 0 else 1
theorem mom_iff {t : Int} : mom t = true ↔ (0 ≤ t ∧ t ≤ 4611686018427387904) := by simp [mom]
theorem untE_eq {la now : Int} (h0 : 0 ≤ la) (h1 : la ≤ 4611686018427387904) : untE la now = bE now := by
  unfold untE bE mom
  simp only [decide_eq_true_eq]
  split <;> split <;> omega
/-- The moment to which it is brought. -/
def mx (la now : Int) : Int := if la < now then now else la
/-- Is a host restored? -/
def rst (m : Int) (r : HR) : Bool := r.e && decide (r.u ≤ m)
def brR (m : Int) (r : HR) : HR := if rst m r then ⟨r.h, false, r.u, 0, r.t⟩ else r
def brS (m : Int) (L : List HR) : List HR := L.map (brR m)
/-- The numbers of those among the first k that are as told. -/
def nums (p : HR → Bool) (L : List HR) : Nat → List Int
  | 0 => []
  | k + 1 => nums p L k ++ (match L[k]? with | some r => if p r then [(k : Int)] else [] | none => [])
theorem nums_succ {p : HR → Bool} {L : List HR} {k : Nat} {r : HR} (h : L[k]? = some r) : nums p L (k + 1) = nums p L k ++ (if p r then [(k : Int)] else []) := by
  show nums p L k ++ _ = _
  rw [h]
theorem nums_len (p : HR → Bool) (L : List HR) : ∀ k, (nums p L k).length ≤ k
  | 0 => Nat.le_refl _
  | k + 1 => by
    have := nums_len p L k
    show (nums p L k ++ _).length ≤ _
    rw [List.length_append]
    split
    · split <;> simp <;> omega
    · simp; omega
/-- The rows, the first i of which were looked at. -/
def upd (m : Int) (L : List HR) (i : Nat) : List HR := (L.take i).map (brR m) ++ L.drop i
theorem upd_len (m : Int) (L : List HR) (i : Nat) : (upd m L i).length = L.length := by unfold upd; simp; omega
theorem upd_at {m : Int} {L : List HR} {i : Nat} (h : i < L.length) : (upd m L i)[i]? = some L[i] := by
  unfold upd
  rw [List.getElem?_append_right (by simp; omega)]
  simp [Nat.min_eq_left (Nat.le_of_lt h)]
theorem upd_set {m : Int} {L : List HR} {i : Nat} (h : i < L.length) : (upd m L i).set i (brR m L[i]) = upd m L (i + 1) := by
  unfold upd
  rw [List.set_append_right _ _ (by simp; omega), List.length_map, List.length_take, Nat.min_eq_left (Nat.le_of_lt h), Nat.sub_self, List.drop_eq_getElem_cons h, List.set_cons_zero, List.take_add_one, List.getElem?_eq_getElem h, List.map_append, List.append_assoc]
  rfl
theorem upd_all (m : Int) (L : List HR) : upd m L L.length = brS m L := by unfold upd brS; simp
theorem upd_none (m : Int) (L : List HR) : upd m L 0 = L := by unfold upd; simp

theorem Does.right {A B B' : Thing} [Ob A] {P : Nat → Prop} {w w1 w2 : World} (h : Does (Two A B) P w w1) (d : ∀ P2, B w1 P2 → Does B' P2 w1 w2) : Does (Two A B') P w w2 :=
  h.trans (fun _ hT => by obtain ⟨P2, hb, hk⟩ := Two.right hT; exact hk _ _ (d P2 hb))
theorem Does.left {A A' B : Thing} [Ob B] {P : Nat → Prop} {w w1 w2 : World} (h : Does (Two A B) P w w1) (d : ∀ P2, A w1 P2 → Does A' P2 w1 w2) : Does (Two A' B) P w w2 :=
  h.trans (fun _ hT => by obtain ⟨P2, hb, hk⟩ := Two.left hT; exact hk _ _ (d P2 hb))
theorem Does.fst_of {A B : Thing} {P : Nat → Prop} {w w1 : World} (h : Does (Two A B) P w w1) : ∃ P2, A w1 P2 := by
  obtain ⟨_, ⟨P1, _, x, _⟩, _⟩ := h; exact ⟨P1, x⟩
theorem Does.snd_of {A B : Thing} {P : Nat → Prop} {w w1 : World} (h : Does (Two A B) P w w1) : ∃ P2, B w1 P2 := by
  obtain ⟨_, ⟨_, P2, _, x, _⟩, _⟩ := h; exact ⟨P2, x⟩
theorem Does.nilrow {B : Thing} {P : Nat → Prop} {w w1 : World} (h : Does B P w w1) : Does (Two (Row (.slice none 0 0) []) B) P w w1 := by
  obtain ⟨P', h1, h2, h3⟩ := h
  exact ⟨P', ⟨fun _ => False, P', ⟨.inl ⟨rfl, rfl⟩, fun _ => by simp [Value.ownBlock]⟩, h1, fun _ x => x.elim, fun _ => by simp⟩, h2, h3⟩
theorem HsT.set2 {T R : TypeId} {n : Bool} {fl bs lo sh la : Int} {L : List HR} {b g : Nat} {w : World} {P : Nat → Prop} (h : HsT T R n fl bs lo sh la L b g w P) {i j : Nat} {r r' : HR} {v : Value} (hr : L[i]? = some r) (hj : j < 5) (he : enc n r' = (enc n r).set j v) : Does (HsT T R n fl bs lo sh la (L.set i r') b g) P w (w.setCell ⟨g, i * 5 + j, none⟩ v) :=
  ⟨P, ⟨h.1.setG hr hj he, h.2⟩, (Fr.set _ _ _ _).mono (fun k _ e => (h.2 k).2 (.inr e)), fun _ hk => .inl hk⟩
/-- The program's set. -/
abbrev Hs (fl bs lo sh la : Int) (L : List HR) (b g : Nat) : Thing := HsT 52 54 false fl bs lo sh la L b g

set_option maxHeartbeats 2000000 in
set_option maxRecDepth 100000 in
theorem bring_any (w : World) (P : Nat → Prop) (fl bs lo sh la now : Int) (L : List HR) (b g : Nat) (h : Hs fl bs lo sh la L b g w P) (hl : L.length ≤ 16) (hm : mom now = true) :
    Calls Try.prog 18 #[.pointer (some ⟨b, 0, none⟩), .int .i64 now] w fun e w' => ∃ v, e = .returned (.tuple #[v, .int .i64 0]) ∧ Does (Two (Row v (nums (rst (mx la now)) L L.length)) (Hs fl bs lo sh (mx la now) (brS (mx la now) L) b g)) P w w' := by
  have HU := hide (until_any 0 now w)
  rw [untE_eq (by omega) (by omega), show bE now = 0 by unfold bE; rw [hm]; rfl] at HU
  obtain ⟨c0, c1, c2, c3, c4, c5, f4⟩ := h.1.cB
  have E0 : Hid ((if la < now then now else la) = mx la now) := hide rfl
  have HH : Hid (Does (Hs fl bs lo sh (mx la now) L b g) P w (w.setCell ⟨b, 4, none⟩ (.int .i64 (mx la now)))) := hide ⟨P, ⟨h.1.at _, h.2⟩, (Fr.set _ _ _ _).mono (fun k _ e => (h.2 k).2 (.inl e)), fun _ hk => .inl hk⟩
  have Hnn := hide (nums_len (rst (mx la now)) L)
  clear h hm
  obtain ⟨n, Hn⟩ : ∃ n, Hid (L.length = n) := ⟨_, hide rfl⟩
  rw [Hn.out] at c5 hl ⊢
  generalize mx la now = m at *
  go_enter Try.func18, Try.ntmps18
  go_upto_region 5 with (go_at_call 31; refine HU.out.mono ?_; rintro e w' ⟨rfl, rfl⟩)
  rw [E0.out]
  have T0 := hide HH.out.nilrow
  clear c0 c1 c2 c3 c4 c5 f4 E0 HU
  generalize w.setCell ⟨b, 4, none⟩ (.int .i64 m) = W1 at *
  have HC : Hid (Calls Try.prog 27 #[.pointer (some ⟨b, 0, none⟩)] W1 fun e w' => e = .returned (.int .i64 (n : Int)) ∧ W1 = w') := hide (by
    obtain ⟨P2, x⟩ := T0.out.snd_of
    have := count_any W1 _ _ _ _ _ _ b g x.1
    rw [Hn.out] at this
    exact this)
  clear HH
  go_wp2_with (go_at_call 27; refine HC.out.mono ?_; rintro e w' ⟨rfl, rfl⟩)
  go_loopw [8, 34] (fun s v wr => ∃ (i : Nat), i ≤ n ∧ v = .int .i64 (i : Int) ∧ Hid (Does (Two (Row s (nums (rst m) L i)) (Hs fl bs lo sh m (upd m L i) b g)) P w wr)) (fun _ v _ => n - (intOf v).toNat)
  case atStart => exact ⟨0, Nat.zero_le _, rfl, by rw [upd_none]; exact T0⟩
  case round =>
    clear T0 HC
    obtain ⟨i, hi, rfl, HI⟩ := hrel
    obtain ⟨a, cap, rfl, q1, q2⟩ : ∃ a cap, u8 = .slice a (nums (rst m) L i).length cap ∧ (nums (rst m) L i).length ≤ cap ∧ cap ≤ 9223372036854775807 := by obtain ⟨_, x⟩ := HI.out.fst_of; exact x.get
    by_cases hlt : i < n
    · have hli : i < L.length := by rw [Hn.out]; exact hlt
      obtain ⟨P2, x⟩ := HI.out.snd_of
      obtain ⟨c0, c1, c2, c3, c4, c5, f4⟩ := x.1.cB
      obtain ⟨g0, g1, g2, g3, g4⟩ := x.1.cG (upd_at hli)
      have z1 := x.1.fz (i * 5 + 1)
      have z3 := x.1.fz (i * 5 + 3)
      rw [upd_len, Hn.out] at c5
      have HSN := hide (nums_succ (p := rst m) (get_take hli))
      have HUS := hide (upd_set (m := m) hli)
      have HUA := hide (upd_at (m := m) hli)
      have Hr16 := hide (Nat.le_trans (Hnn.out i) (Nat.le_trans hi hl))
      generalize L[i] = r at *
      clear x hli
      obtain ⟨cn, Hcn⟩ : ∃ cn, Hid ((nums (rst m) L i).length = cn) := ⟨_, hide rfl⟩
      rw [Hcn.out] at q1 HI ⊢
      by_cases hq : r.e = true ∧ r.u ≤ m
      · obtain ⟨hq1, hq2⟩ := hq
        rw [hq1] at g1
        have hr : rst m r = true := by unfold rst; rw [hq1]; simpa using hq2
        have hb : brR m r = ⟨r.h, false, r.u, 0, r.t⟩ := by unfold brR; rw [hr]; rfl
        rw [hr, if_pos rfl] at HSN
        rw [hb] at HUS
        obtain ⟨rh, re, ru, rf, rt⟩ := r
        simp only at *
        go_wp2_with fail
        go_quiet (fail)
        have T2 : Hid (Does (Two (Row (.slice a cn cap) (nums (rst m) L i)) (Hs fl bs lo sh m (upd m L i) b g)) P w (wr.drewN nq)) := hide (HI.out.e (Fr.drewN _ _ _))
        clear c0 c1 c2 c3 c4 c5 f4 g0 g1 g2 g3 g4 z1 z3 HI
        generalize wr.drewN nq = W2 at *
        obtain ⟨P2, x⟩ := T2.out.snd_of
        obtain ⟨g0, g1, g2, g3, g4⟩ := x.1.cG HUA.out
        have z1 := x.1.fz (i * 5 + 1)
        have z3 := x.1.fz (i * 5 + 3)
        have T3 : Hid (Does (Two (Row (.slice a cn cap) (nums (rst m) L i)) (Hs fl bs lo sh m ((upd m L i).set i ⟨rh, false, ru, rf, rt⟩) b g)) P w (W2.setCell ⟨g, i * 5 + 1, none⟩ (.bool false))) := hide (T2.out.right (fun _ y => HsT.set2 (j := 1) y HUA.out (by omega) rfl))
        have hset : ((upd m L i).set i ⟨rh, false, ru, rf, rt⟩)[i]? = some ⟨rh, false, ru, rf, rt⟩ := by
          rw [List.getElem?_set_self (by obtain ⟨h, _⟩ := List.getElem?_eq_some_iff.1 HUA.out; exact h)]
        obtain ⟨P3, x3⟩ := T3.out.snd_of
        obtain ⟨-, -, -, k3, -⟩ := x3.1.cG hset
        have y3 := x3.1.fz (i * 5 + 3)
        have T4 : Hid (Does (Two (Row (.slice a cn cap) (nums (rst m) L i)) (Hs fl bs lo sh m (upd m L (i + 1)) b g)) P w ((W2.setCell ⟨g, i * 5 + 1, none⟩ (.bool false)).setCell ⟨g, i * 5 + 3, none⟩ (.int .i64 0))) := hide (by
          have := T3.out.right (fun _ y => HsT.set2 (j := 3) (r' := ⟨rh, false, ru, 0, rt⟩) (v := .int .i64 0) y hset (by omega) rfl)
          rw [List.set_set, HUS.out] at this
          exact this)
        clear x x3 T2 T3 hset
        go_upto_region 12 with fail
        clear g0 g1 g2 g3 g4 z1 z3 k3 y3
        generalize (W2.setCell ⟨g, i * 5 + 1, none⟩ (.bool false)).setCell ⟨g, i * 5 + 3, none⟩ (.int .i64 0) = W4 at *
        have HS : Hid (Sr W4 (.slice a cn cap) (nums (rst m) L i)) := by obtain ⟨_, x⟩ := T4.out.fst_of; exact hide x.1
        go_wp2_with (at_builtin; apply Hid.out)
        unfold Hid
        refine wpList_append_sr rfl _ _ rfl W4 (.slice a cn cap) (nums (rst m) L i) (i : Int) rfl (by simp [Act.eval, go_sem]) HS.out (by have := Hr16.out; omega) ?_
        intro v' W6 r1 F o
        rw [← HSN.out] at r1
        have T6 := hide (T4.out.left (fun _ y => y.app r1 F o))
        clear r1 F o HS T4
        go_wp2_with fail
        go_roundw
        case rel => exact ⟨i + 1, by omega, by go_num, T6⟩
        case measure => simp [intOf]; omega
      · have hr : rst m r = false := by unfold rst; rw [Bool.and_eq_false_iff, decide_eq_false_iff_not]; by_cases x : r.e = true <;> simp_all
        have hb : brR m r = r := by unfold brR; rw [hr]; rfl
        rw [hr, if_neg (by simp), List.append_nil] at HSN
        rw [hb] at HUS
        have hus : (upd m L i).set i r = upd m L i := by
          obtain ⟨h1, h2⟩ := List.getElem?_eq_some_iff.1 HUA.out
          rw [← h2, List.set_getElem_self]
        rw [hus] at HUS
        rw [← HSN.out, HUS.out] at HI
        have hq2 : r.e = false ∨ (r.e = true ∧ ¬ r.u ≤ m) := by by_cases x : r.e = true <;> simp_all
        clear hq hus hb hr HUA HUS HSN
        rcases hq2 with he | ⟨he, hu⟩
        · rw [he] at g1
          go_wp2_with fail
          go_quiet (fail)
          have T2 := hide (HI.out.e (Fr.drewN none' _ nq))
          clear HI
          go_wp2_with fail
          go_roundw
          case rel => exact ⟨i + 1, by omega, by go_num, T2⟩
          case measure => simp [intOf]; omega
        · rw [he] at g1
          have hud : decide (r.u ≤ m) = false := decide_eq_false hu
          go_wp2_with fail
          go_quiet (fail)
          have T2 := hide (HI.out.e (Fr.drewN none' _ nq))
          clear HI
          go_wp2_with fail
          go_roundw
          case rel => exact ⟨i + 1, by omega, by go_num, T2⟩
          case measure => simp [intOf]; omega
    · obtain rfl : i = n := by omega
      have e : upd m L i = brS m L := by rw [← Hn.out]; exact upd_all m L
      rw [e] at HI
      go_wp2_with fail
      go_ret2
      exact ⟨_, rfl, HI.out⟩
end Go.Proofs.Ytobkgkcemdocnaa
