/- What each call of a world tells, and what the world is behind it, as functions of its connections. -/
import Derived.Test.YtpgbpfdgbajhlaaDoes4
namespace Go.Proofs.Ytpgbpfdgbajhlaa
open Go.ChangeShapes Go.WideShapes Go.ChangeAt Go.RowKit

/-- By the open connection of a number, if there is one. -/
def withAt {α : Type} (S : List Cn) (k : Int) (no : α) (yes : Nat → Cn → α) : α :=
  match S.findIdx? (fun x => x.num == k && x.isOpen) with
  | some i => (match S[i]? with | some x => yes i x | none => no)
  | none => no

theorem withAt_cases (S : List Cn) (k : Int) : (∃ i x, S[i]? = some x ∧ x.num = k ∧ x.isOpen = true ∧ ∀ {α : Type} (no : α) (yes : Nat → Cn → α), withAt S k no yes = yes i x) ∨ (Shut S k ∧ ∀ {α : Type} (no : α) (yes : Nat → Cn → α), withAt S k no yes = no) := by
  cases h : S.findIdx? (fun x => x.num == k && x.isOpen) with
  | none =>
    refine .inr ⟨fun x hx e => ?_, fun no yes => by unfold withAt; rw [h]⟩
    have := List.findIdx?_eq_none_iff.1 h x hx
    cases ho : x.isOpen with
    | false => rfl
    | true => simp [e, ho] at this
  | some i =>
    obtain ⟨hi, hp, _⟩ := List.findIdx?_eq_some_iff_getElem.1 h
    simp only [Bool.and_eq_true, beq_iff_eq] at hp
    refine .inl ⟨i, S[i], List.getElem?_eq_getElem hi, hp.1, hp.2, fun no yes => ?_⟩
    unfold withAt
    rw [h]
    simp only [List.getElem?_eq_getElem hi]

def sOpen (S : List Cn) (k : Int) : Int × List Cn :=
  if k < 0 then (1, S) else if S.any (fun x => x.num == k) then (7, S) else if 1024 ≤ (S.filter Cn.isOpen).length then (5, S) else (0, S ++ [fresh k])
def sClose (S : List Cn) (k : Int) : Int × List Cn := withAt S k (6, S) (fun i x => (0, S.set i { x with isOpen := false }))
def sEnd (S : List Cn) (k : Int) : Int × List Cn := withAt S k (6, S) (fun i x => (0, S.set i { x with ended := true }))
def sArrive (S : List Cn) (k : Int) (X : List Int) : Int × List Cn := withAt S k (6, S) (fun i x => if x.ended = true then (7, S) else if 1048576 < x.waits.length + X.length then (2, S) else (0, S.set i { x with waits := x.waits ++ X }))
def sRoom (S : List Cn) (k n : Int) : Int × List Cn := withAt S k (6, S) (fun i x => if n < 0 then (1, S) else (0, S.set i { x with room := min 1048576 (x.room + n) }))
def sRead (S : List Cn) (k n : Int) : (List Int × Int) × List Cn := withAt S k (([], 6), S) (fun i x => ((x.waits.take (clip n x.waits), 0), S.set i { x with waits := x.waits.drop (clip n x.waits) }))
def sWrite (S : List Cn) (k : Int) (X : List Int) : (Int × Int) × List Cn := withAt S k ((0, 6), S) (fun i x => ((min (X.length : Int) x.room, 0), S.set i { x with sent := x.sent ++ X.take (min (X.length : Int) x.room).toNat, room := x.room - min (X.length : Int) x.room }))
def sWaits (S : List Cn) (k : Int) : Nat × Bool := withAt S k (0, false) (fun _ x => (x.waits.length, x.ended))
def sGive (dr : List Int) (v : Int) : Int × List Int := if v < 0 ∨ 4294967295 < v then (1, dr) else if 4096 ≤ dr.length then (5, dr) else (0, dr ++ [v])
def sDraw (dr : List Int) (n : Int) : (Int × Int) × List Int := if n < 1 then ((0, 1), dr) else match dr with | [] => ((0, 0), []) | v :: r => ((v % n, 0), r)
/-- What was sent over the connection of a number. -/
def sSent (S : List Cn) (k : Int) : List Int := match S.find? (fun x => x.num == k) with | some x => x.sent | none => []

section
variable {W : World} {c : Nat} {S : List Cn} {dr : List Int} {own : Nat → Option Tag} {k : Int}

theorem any_open (h : Wd W c S dr own) (hk2 : k ≤ 9223372036854775807) (hs : S.length < 70368744177664) :
    Calls Try.prog 18 #[ptr c, .int .i64 k] W fun e W' => e = .returned (.int .i64 (sOpen S k).1) ∧ ∃ own', Wd W' c (sOpen S k).2 dr own' ∧ Kp own own' W W' := by
  unfold sOpen
  by_cases h0 : k < 0
  · simp only [if_pos h0]
    refine (does_open_low W c h0).mono ?_
    rintro e W' ⟨rfl, rfl⟩
    exact ⟨rfl, own, h, Kp.refl _ _⟩
  · simp only [if_neg h0]
    by_cases h1 : S.any (fun x => x.num == k) = true
    · simp only [if_pos h1]
      obtain ⟨x, hx, e⟩ := List.any_eq_true.1 h1
      obtain ⟨i, hi, rfl⟩ := List.getElem_of_mem hx
      have e : S[i].num = k := by simpa using e
      subst e
      refine (does_open_was h (List.getElem?_eq_getElem hi)).mono ?_
      rintro e W' ⟨rfl, rfl⟩
      exact ⟨rfl, own, h, Kp.refl _ _⟩
    · simp only [if_neg h1]
      have hno : ∀ x ∈ S, x.num ≠ k := fun x hx e => h1 (List.any_eq_true.2 ⟨x, hx, by simpa using e⟩)
      by_cases h2 : 1024 ≤ (S.filter Cn.isOpen).length
      · simp only [if_pos h2]
        refine (does_open_full h (by omega) hk2 hno h2).mono ?_
        rintro e W' ⟨rfl, rfl⟩
        exact ⟨rfl, own, h, Kp.refl _ _⟩
      · simp only [if_neg h2]
        exact does_open h (by omega) hk2 hno (by omega) hs

theorem any_close (h : Wd W c S dr own) (hk : (Lit.int .i64 k).wf = true) :
    Calls Try.prog 25 #[ptr c, .int .i64 k] W fun e W' => e = .returned (.int .i64 (sClose S k).1) ∧ ∃ own', Wd W' c (sClose S k).2 dr own' ∧ Kp own own' W W' := by
  unfold sClose
  rcases withAt_cases S k with ⟨i, x, hx, rfl, ho, hw⟩ | ⟨hn, hw⟩
  · rw [hw]
    refine (does_close h hx ho).mono ?_
    rintro e W' ⟨rfl, h1, h2⟩
    exact ⟨rfl, own, h1, h2⟩
  · rw [hw]
    refine (does_close_no h hk hn).mono ?_
    rintro e W' ⟨rfl, rfl⟩
    exact ⟨rfl, own, h, Kp.refl _ _⟩
theorem any_end (h : Wd W c S dr own) (hk : (Lit.int .i64 k).wf = true) :
    Calls Try.prog 29 #[ptr c, .int .i64 k] W fun e W' => e = .returned (.int .i64 (sEnd S k).1) ∧ ∃ own', Wd W' c (sEnd S k).2 dr own' ∧ Kp own own' W W' := by
  unfold sEnd
  rcases withAt_cases S k with ⟨i, x, hx, rfl, ho, hw⟩ | ⟨hn, hw⟩
  · rw [hw]
    refine (does_end h hx ho).mono ?_
    rintro e W' ⟨rfl, h1, h2⟩
    exact ⟨rfl, own, h1, h2⟩
  · rw [hw]
    refine (does_end_no h hk hn).mono ?_
    rintro e W' ⟨rfl, rfl⟩
    exact ⟨rfl, own, h, Kp.refl _ _⟩
theorem any_room (h : Wd W c S dr own) (hk : (Lit.int .i64 k).wf = true) (n : Int) :
    Calls Try.prog 21 #[ptr c, .int .i64 k, .int .i64 n] W fun e W' => e = .returned (.int .i64 (sRoom S k n).1) ∧ ∃ own', Wd W' c (sRoom S k n).2 dr own' ∧ Kp own own' W W' := by
  unfold sRoom
  rcases withAt_cases S k with ⟨i, x, hx, rfl, ho, hw⟩ | ⟨hn, hw⟩
  · rw [hw]
    by_cases h0 : n < 0
    · simp only [if_pos h0]
      refine (does_room_bad h hx ho h0).mono ?_
      rintro e W' ⟨rfl, rfl⟩
      exact ⟨rfl, own, h, Kp.refl _ _⟩
    · simp only [if_neg h0]
      refine (does_room h hx ho (by omega)).mono ?_
      rintro e W' ⟨rfl, h1, h2⟩
      exact ⟨rfl, own, h1, h2⟩
  · rw [hw]
    refine (does_room_no h hk hn n).mono ?_
    rintro e W' ⟨rfl, rfl⟩
    exact ⟨rfl, own, h, Kp.refl _ _⟩
theorem any_arrive (h : Wd W c S dr own) (hk : (Lit.int .i64 k).wf = true) {src : Value} {X : List Int} (hX : Sl W .u8 src X) (hl : X.length ≤ 140737488355328) :
    Calls Try.prog 19 #[ptr c, .int .i64 k, src] W fun e W' => e = .returned (.int .i64 (sArrive S k X).1) ∧ ∃ own', Wd W' c (sArrive S k X).2 dr own' ∧ Kp own own' W W' := by
  unfold sArrive
  rcases withAt_cases S k with ⟨i, x, hx, rfl, ho, hw⟩ | ⟨hn, hw⟩
  · rw [hw]
    by_cases h0 : x.ended = true
    · simp only [if_pos h0]
      refine (does_arrive_ended h hx ho h0 src).mono ?_
      rintro e W' ⟨rfl, rfl⟩
      exact ⟨rfl, own, h, Kp.refl _ _⟩
    · simp only [if_neg h0]
      have h0' : x.ended = false := by simpa using h0
      by_cases h1 : 1048576 < x.waits.length + X.length
      · simp only [if_pos h1]
        refine (does_arrive_long h hx ho h0' hX hl h1).mono ?_
        rintro e W' ⟨rfl, rfl⟩
        exact ⟨rfl, own, h, Kp.refl _ _⟩
      · simp only [if_neg h1]
        exact does_arrive h hx ho h0' hX (by omega)
  · rw [hw]
    refine (does_arrive_no h hk hn src).mono ?_
    rintro e W' ⟨rfl, rfl⟩
    exact ⟨rfl, own, h, Kp.refl _ _⟩
theorem any_read (h : Wd W c S dr own) (hk : (Lit.int .i64 k).wf = true) (n : Int) :
    Calls Try.prog 20 #[ptr c, .int .i64 k, .int .i64 n] W fun e W' => ∃ v' go own', e = .returned (.tuple #[v', .int .i64 (sRead S k n).1.2]) ∧ Row W' .u8 v' (sRead S k n).1.1 go ∧ (∀ g, go = some g → W.heap.size ≤ g ∧ own' g = none) ∧ Wd W' c (sRead S k n).2 dr own' ∧ Kp own own' W W' := by
  unfold sRead
  rcases withAt_cases S k with ⟨i, x, hx, rfl, ho, hw⟩ | ⟨hn, hw⟩
  · rw [hw]
    exact does_read h hx ho n
  · rw [hw]
    refine (does_read_no h hk hn n).mono ?_
    rintro e W' ⟨rfl, rfl⟩
    exact ⟨_, none, own, rfl, Row.nil _ _, nofun, h, Kp.refl _ _⟩
theorem any_write (h : Wd W c S dr own) (hk : (Lit.int .i64 k).wf = true) {src : Value} {X : List Int} (hX : Sl W .u8 src X) (hl : ∀ x ∈ S, x.sent.length + X.length ≤ 70368744177664) :
    Calls Try.prog 22 #[ptr c, .int .i64 k, src] W fun e W' => e = .returned (.tuple #[.int .i64 (sWrite S k X).1.1, .int .i64 (sWrite S k X).1.2]) ∧ ∃ own', Wd W' c (sWrite S k X).2 dr own' ∧ Kp own own' W W' := by
  unfold sWrite
  rcases withAt_cases S k with ⟨i, x, hx, rfl, ho, hw⟩ | ⟨hn, hw⟩
  · rw [hw]
    have := hl x (List.mem_of_getElem? hx)
    have hr := h.ok.rm x (List.mem_of_getElem? hx)
    exact does_write h hx ho hX (by omega)
  · rw [hw]
    refine (does_write_no h hk hn src).mono ?_
    rintro e W' ⟨rfl, rfl⟩
    exact ⟨rfl, own, h, Kp.refl _ _⟩
theorem any_waits (h : Wd W c S dr own) (hk : (Lit.int .i64 k).wf = true) :
    Calls Try.prog 10 #[ptr c, .int .i64 k] W fun e W' => e = .returned (.tuple #[.int .i64 (sWaits S k).1, .bool (sWaits S k).2]) ∧ Wd W' c S dr own ∧ Kp own own W W' := by
  unfold sWaits
  rcases withAt_cases S k with ⟨i, x, hx, rfl, ho, hw⟩ | ⟨hn, hw⟩
  · rw [hw]
    exact does_waits h hx ho
  · rw [hw]
    refine (does_waits_no h hk hn).mono ?_
    rintro e W' ⟨rfl, rfl⟩
    exact ⟨rfl, h, Kp.refl _ _⟩
theorem any_give (h : Wd W c S dr own) (v : Int) :
    Calls Try.prog 24 #[ptr c, .int .i64 v] W fun e W' => e = .returned (.int .i64 (sGive dr v).1) ∧ ∃ own', Wd W' c S (sGive dr v).2 own' ∧ Kp own own' W W' := by
  unfold sGive
  by_cases h0 : v < 0 ∨ 4294967295 < v
  · simp only [if_pos h0]
    refine (give_bad W _ v h0).mono ?_
    rintro e W' ⟨rfl, rfl⟩
    exact ⟨rfl, own, h, Kp.refl _ _⟩
  · simp only [if_neg h0]
    by_cases h1 : 4096 ≤ dr.length
    · simp only [if_pos h1]
      refine (does_give_full h (by omega) (by omega) h1).mono ?_
      rintro e W' ⟨rfl, rfl⟩
      exact ⟨rfl, own, h, Kp.refl _ _⟩
    · simp only [if_neg h1]
      exact does_give h (by omega) (by omega) (by omega)
theorem any_draw (h : Wd W c S dr own) (n : Int) :
    Calls Try.prog 23 #[ptr c, .int .i64 n] W fun e W' => e = .returned (.tuple #[.int .i64 (sDraw dr n).1.1, .int .i64 (sDraw dr n).1.2]) ∧ ∃ own', Wd W' c S (sDraw dr n).2 own' ∧ Kp own own' W W' := by
  unfold sDraw
  by_cases h0 : n < 1
  · simp only [if_pos h0]
    refine (draw_bad W _ n h0).mono ?_
    rintro e W' ⟨rfl, rfl⟩
    exact ⟨rfl, own, h, Kp.refl _ _⟩
  · simp only [if_neg h0]
    cases dr with
    | nil =>
      refine (does_draw_none h (by omega)).mono ?_
      rintro e W' ⟨rfl, rfl⟩
      exact ⟨rfl, own, h, Kp.refl _ _⟩
    | cons v r =>
      refine (does_draw h (by omega)).mono ?_
      rintro e W' ⟨rfl, h1, h2⟩
      exact ⟨rfl, own, h1, h2⟩
theorem any_sent (h : Wd W c S dr own) (hk : (Lit.int .i64 k).wf = true) : Calls Try.prog 12 #[ptr c, .int .i64 k] W fun e W' => ∃ v go, e = .returned v ∧ Row W' .u8 v (sSent S k) go ∧ (∀ g, go = some g → W.heap.size ≤ g ∧ own g = none) ∧ Wd W' c S dr own ∧ Kp own own W W' := by
  unfold sSent
  cases hf : S.find? (fun x => x.num == k) with
  | none =>
    exact does_sent_no h hk (fun x hx e => by have := List.find?_eq_none.1 hf x hx; simp [e] at this)
  | some x =>
    have hx := List.mem_of_find?_eq_some hf
    have he := List.find?_some hf
    simp only [beq_iff_eq] at he
    subst he
    obtain ⟨i, hi, e⟩ := List.getElem_of_mem hx
    exact does_sent h (i := i) (by rw [List.getElem?_eq_getElem hi, e])
end
end Go.Proofs.Ytpgbpfdgbajhlaa
