/- A request's attempts, purely: what each call does, and what the laws ask of that. -/
import Derived.Test.YtjfpdenakgifgaaPBase
namespace Go.Proofs.Ytjfpdenakgifgaa
open Go.ChangeShapes Go.WideShapes Go.ChangeAt Go.RowKit
set_option linter.unusedVariables false
def latI (t d : Int) : Int := if 4611686018427387904 - t < d then 4611686018427387904 else t + d
/-- An attempt that runs. -/
structure Rn where
  id : Int
  si : Int
/-- An act. -/
structure Ac where
  k : Int
  c : Int
  w : Int
structure Rq where
  re : Int
  hg : Int
  ha : Int
  pt : Int
  to : Int
  sf : Bool
  en : Int
  m0 : Int
  m1 : Int
  m2 : Int
  la : Int
  R : List Rn
def isN (id : Int) (x : Rn) : Bool := x.id == id
def noId (id : Int) (L : List Rn) : List Rn := L.filter (fun x => !isN id x)
def ids (L : List Rn) : List Int := L.map (·.id)
def fgP (p : Rq) (id : Int) : Rq := { p with R := noId id p.R }
def numP (p : Rq) : Int := p.m0 + p.m1 + p.m2
def bgP (p : Rq) (now kd : Int) : Rq := { p with m0 := if kd = 0 then p.m0 + 1 else p.m0, m1 := if kd = 1 then p.m1 + 1 else p.m1, m2 := if kd = 2 then p.m2 + 1 else p.m2, la := now, R := p.R ++ [⟨numP p, now⟩] }
def bgA (p : Rq) (kd : Int) : List Ac := [⟨1, numP p, kd⟩]
def lgA (l : List Int) : List Ac := l.map fun i => ⟨2, i, 0⟩
def lgP (p : Rq) (l : List Int) : Rq := l.foldl fgP p
def mayB (p : Rq) (why : Int) (al : Bool) : Bool := al && (p.sf || (why == 1 || why == 4)) && decide (p.m1 < p.re)
def failC (why : Int) : Int := if why = 2 then 502 else if why = 3 then 504 else 503
def anA (id st : Int) : List Ac := [⟨4, id, st⟩]
def flP (p : Rq) (now id why : Int) (al : Bool) : Rq := if (fgP p id).R = [] ∧ mayB (fgP p id) why al = true then bgP (fgP p id) now 1 else fgP p id
def flA (p : Rq) (id why : Int) (al : Bool) : List Ac := if (fgP p id).R = [] then (if mayB (fgP p id) why al = true then bgA (fgP p id) 1 else anA id (failC why)) else []
def wnP (p : Rq) (id : Int) : Rq := lgP (fgP p id) (ids (fgP p id).R)
def wnA (p : Rq) (id : Int) : List Ac := lgA (ids (fgP p id).R) ++ [⟨3, id, 0⟩]
def tirB (p : Rq) (now : Int) (x : Rn) : Bool := decide (latI x.si p.pt ≤ now)
def ltL (p : Rq) (now : Int) : List Int := ids (p.R.filter (tirB p now))
def nhB (p : Rq) : Bool := !p.R.isEmpty && decide (p.m2 < p.hg)
def nhT (p : Rq) : Int := if nhB p = true then latI p.la p.ha else 0
def hgB (p : Rq) (now : Int) : Bool := nhB p && decide (nhT p ≤ now)
def hgP (p : Rq) (now : Int) (al : Bool) : Rq := if hgB p now = true then (if al = true then bgP p now 2 else { p with hg := 0 }) else p
def hgA (p : Rq) (now : Int) (al : Bool) : List Ac := if hgB p now = true ∧ al = true then bgA p 2 else []
/-- One that is late. -/
def l1P (p : Rq) (now : Int) (al : Bool) (id : Int) : Rq := flP (fgP p id) now id 3 al
def l1A (p : Rq) (al : Bool) (id : Int) : List Ac := lgA [id] ++ flA (fgP p id) id 3 al
def llS (now : Int) (al : Bool) (s : Rq × List Ac) (id : Int) : Rq × List Ac := (l1P s.1 now al id, s.2 ++ l1A s.1 al id)
def llF (p : Rq) (now : Int) (al : Bool) (l : List Int) : Rq × List Ac := l.foldl (llS now al) (p, [])
def tmE (now : Int) : Int := if mom now = true then 0 else 1
def tmP (p : Rq) (now : Int) (al : Bool) : Rq :=
  if mom now = true ∧ p.R ≠ [] then (if p.en ≤ now then lgP p (ids p.R) else hgP (llF p now al (ltL p now)).1 now al) else p
def tmA (p : Rq) (now : Int) (al : Bool) : List Ac :=
  if mom now = true ∧ p.R ≠ [] then (if p.en ≤ now then lgA (ids p.R) ++ anA (-1) 504 else (llF p now al (ltL p now)).2 ++ hgA (llF p now al (ltL p now)).1 now al) else []
def hasB (p : Rq) (id : Int) : Bool := (ids p.R).contains id
def faE (p : Rq) (now id why : Int) : Int := if mom now = true ∧ 1 ≤ why ∧ why ≤ 4 then (if hasB p id = true then 0 else 6) else 1
def faP (p : Rq) (now id why : Int) (al : Bool) : Rq := if faE p now id why = 0 then flP p now id why al else p
def faA (p : Rq) (now id why : Int) (al : Bool) : List Ac := if faE p now id why = 0 then flA p id why al else []
def badB (st : Int) : Bool := st == 502 || (st == 503 || st == 504)
def heE (p : Rq) (now id st : Int) : Int := if mom now = true then (if hasB p id = true then (if 200 ≤ st ∧ st ≤ 599 then 0 else 1) else 6) else 1
def heP0 (p : Rq) (now id st : Int) (al : Bool) : Rq := if badB st = false then wnP p id else if 1 < p.R.length then fgP p id else if mayB p 5 al = true then bgP (fgP p id) now 1 else wnP p id
def heA0 (p : Rq) (id st : Int) (al : Bool) : List Ac := if badB st = false then wnA p id else if 1 < p.R.length then lgA [id] else if mayB p 5 al = true then lgA [id] ++ bgA (fgP p id) 1 else wnA p id
def heP (p : Rq) (now id st : Int) (al : Bool) : Rq := if heE p now id st = 0 then heP0 p now id st al else p
def heA (p : Rq) (now id st : Int) (al : Bool) : List Ac := if heE p now id st = 0 then heA0 p id st al else []
def okPl (re hg ha pt to : Int) : Prop := (0 ≤ re ∧ re ≤ 5) ∧ (0 ≤ hg ∧ hg ≤ 3) ∧ (1 ≤ ha ∧ ha ≤ 1000000) ∧ (1 ≤ pt ∧ pt ≤ 1000000) ∧ (1 ≤ to ∧ to ≤ 1000000)
/-- A request that began, ahead of its first attempt. -/
def pz (re hg ha pt to : Int) (sf : Bool) (now : Int) : Rq := ⟨re, hg, ha, pt, to, sf, latI now to, 0, 0, 0, 0, []⟩
def p1 (re hg ha pt to : Int) (sf : Bool) (now : Int) : Rq := bgP (pz re hg ha pt to sf now) now 0
/-- Its numbers lie in their ranges. -/
structure QOk (p : Rq) : Prop where
  re0 : 0 ≤ p.re
  re1 : p.re ≤ 5
  hg0 : 0 ≤ p.hg
  hg1 : p.hg ≤ 3
  ha0 : 1 ≤ p.ha
  ha1 : p.ha ≤ 1000000
  pt0 : 1 ≤ p.pt
  pt1 : p.pt ≤ 1000000
  en0 : 0 ≤ p.en
  en1 : p.en ≤ 4611686018427387904
  m00 : 0 ≤ p.m0
  m01 : p.m0 ≤ 1
  m10 : 0 ≤ p.m1
  m11 : p.m1 ≤ 5
  m20 : 0 ≤ p.m2
  m21 : p.m2 ≤ 3
  la0 : 0 ≤ p.la
  la1 : p.la ≤ 4611686018427387904
  len : (p.R.length : Int) ≤ numP p
  ri : ∀ r ∈ p.R, 0 ≤ r.id ∧ r.id < numP p
  rs : ∀ r ∈ p.R, 0 ≤ r.si ∧ r.si ≤ 4611686018427387904
theorem lat_bd {t d : Int} (h0 : 0 ≤ t) (h1 : t ≤ 4611686018427387904) (d0 : 0 ≤ d) : 0 ≤ latI t d ∧ latI t d ≤ 4611686018427387904 := by unfold latI; split <;> omega
theorem noId_len (id : Int) (L : List Rn) : (noId id L).length ≤ L.length := List.length_filter_le _ _
theorem QOk.fg {p : Rq} (h : QOk p) (id : Int) : QOk (fgP p id) := by
  have := h.len
  have := noId_len id p.R
  exact { h with len := by show ((noId id p.R).length : Int) ≤ numP p; omega, ri := fun r hr => h.ri r ((List.mem_filter.1 hr).1), rs := fun r hr => h.rs r ((List.mem_filter.1 hr).1) }
theorem QOk.lg : ∀ (l : List Int) {p : Rq}, QOk p → QOk (lgP p l)
  | [], _, h => h
  | i :: l, p, h => QOk.lg l (h.fg i)
theorem QOk.bg {p : Rq} (h : QOk p) {now kd : Int} (n0 : 0 ≤ now) (n1 : now ≤ 4611686018427387904) (hk : (kd = 0 ∧ p.m0 = 0) ∨ (kd = 1 ∧ p.m1 < p.re) ∨ (kd = 2 ∧ p.m2 < p.hg)) : QOk (bgP p now kd) := by
  have hn : numP (bgP p now kd) = numP p + 1 := by
    unfold numP bgP
    rcases hk with ⟨rfl, _⟩ | ⟨rfl, _⟩ | ⟨rfl, _⟩ <;> simp <;> omega
  have hp : 0 ≤ numP p := by unfold numP; have := h.m00; have := h.m10; have := h.m20; omega
  have := h.len; have := h.m00; have := h.m01; have := h.m10; have := h.m11; have := h.m20; have := h.m21; have := h.re1; have := h.hg1
  refine { h with m00 := ?_, m01 := ?_, m10 := ?_, m11 := ?_, m20 := ?_, m21 := ?_, la0 := n0, la1 := n1, len := ?_, ri := ?_, rs := ?_ }
  · show 0 ≤ if kd = 0 then p.m0 + 1 else p.m0
    split <;> omega
  · show (if kd = 0 then p.m0 + 1 else p.m0) ≤ 1
    split <;> omega
  · show 0 ≤ if kd = 1 then p.m1 + 1 else p.m1
    split <;> omega
  · show (if kd = 1 then p.m1 + 1 else p.m1) ≤ 5
    split <;> omega
  · show 0 ≤ if kd = 2 then p.m2 + 1 else p.m2
    split <;> omega
  · show (if kd = 2 then p.m2 + 1 else p.m2) ≤ 3
    split <;> omega
  · rw [hn]; show ((p.R ++ [_]).length : Int) ≤ _; rw [List.length_append]; simp; omega
  · intro r hr
    rw [hn]
    rcases List.mem_append.1 hr with x | x
    · have := h.ri r x; omega
    · simp at x; subst x; dsimp only; omega
  · intro r hr
    rcases List.mem_append.1 hr with x | x
    · exact h.rs r x
    · simp at x; subst x; exact ⟨n0, n1⟩
theorem may_lt {p : Rq} {why : Int} {al : Bool} (h : mayB p why al = true) : p.m1 < p.re := by
  unfold mayB at h
  rw [Bool.and_eq_true, decide_eq_true_eq] at h
  exact h.2
theorem QOk.fl {p : Rq} (h : QOk p) {now : Int} (id why : Int) (al : Bool) (n0 : 0 ≤ now) (n1 : now ≤ 4611686018427387904) : QOk (flP p now id why al) := by
  unfold flP
  split
  · rename_i x
    exact (h.fg id).bg n0 n1 (.inr (.inl ⟨rfl, may_lt x.2⟩))
  · exact h.fg id
theorem QOk.wn {p : Rq} (h : QOk p) (id : Int) : QOk (wnP p id) := (h.fg id).lg _
theorem hg_lt {p : Rq} {now : Int} (h : hgB p now = true) : p.m2 < p.hg := by
  unfold hgB nhB at h
  simp only [Bool.and_eq_true, decide_eq_true_eq] at h
  exact h.1.2
theorem QOk.hgd {p : Rq} (h : QOk p) {now : Int} (al : Bool) (n0 : 0 ≤ now) (n1 : now ≤ 4611686018427387904) : QOk (hgP p now al) := by
  unfold hgP
  split
  · rename_i x
    split
    · exact h.bg n0 n1 (.inr (.inr ⟨rfl, hg_lt x⟩))
    · exact { h with hg0 := by show (0 : Int) ≤ 0; omega, hg1 := by show (0 : Int) ≤ 3; omega }
  · exact h
theorem QOk.ll {now : Int} (al : Bool) (n0 : 0 ≤ now) (n1 : now ≤ 4611686018427387904) : ∀ (l : List Int) {s : Rq × List Ac}, QOk s.1 → QOk (l.foldl (llS now al) s).1
  | [], _, h => h
  | i :: l, s, h => QOk.ll al n0 n1 l (s := llS now al s i) ((h.fg i).fl i 3 al n0 n1)
theorem mom_iff {t : Int} : mom t = true ↔ (0 ≤ t ∧ t ≤ 4611686018427387904) := by simp [mom]
theorem QOk.tm {p : Rq} (h : QOk p) (now : Int) (al : Bool) : QOk (tmP p now al) := by
  unfold tmP
  split
  · rename_i x
    obtain ⟨n0, n1⟩ := mom_iff.1 x.1
    split
    · exact h.lg _
    · exact (QOk.ll al n0 n1 _ (s := (p, [])) h).hgd al n0 n1
  · exact h
theorem faE_mom {p : Rq} {now id why : Int} (h : faE p now id why = 0) : 0 ≤ now ∧ now ≤ 4611686018427387904 := by
  unfold faE at h
  split at h
  · rename_i x; exact mom_iff.1 x.1
  · omega
theorem heE_mom {p : Rq} {now id why : Int} (h : heE p now id why = 0) : 0 ≤ now ∧ now ≤ 4611686018427387904 := by
  unfold heE at h
  split at h
  · rename_i x; exact mom_iff.1 x
  · omega
theorem QOk.fa {p : Rq} (h : QOk p) (now id why : Int) (al : Bool) : QOk (faP p now id why al) := by
  unfold faP
  split
  · rename_i x
    exact h.fl id why al (faE_mom x).1 (faE_mom x).2
  · exact h
theorem QOk.he {p : Rq} (h : QOk p) (now id st : Int) (al : Bool) : QOk (heP p now id st al) := by
  unfold heP
  split
  · rename_i x
    obtain ⟨n0, n1⟩ := heE_mom x
    unfold heP0
    split
    · exact h.wn id
    split
    · exact h.fg id
    split
    · rename_i y
      exact (h.fg id).bg n0 n1 (.inr (.inl ⟨rfl, may_lt y⟩))
    · exact h.wn id
  · exact h
theorem QOk.new {re hg ha pt to now : Int} {sf : Bool} (h : okPl re hg ha pt to) (n0 : 0 ≤ now) (n1 : now ≤ 4611686018427387904) : QOk (p1 re hg ha pt to sf now) := by
  obtain ⟨⟨a, b⟩, ⟨c, d⟩, ⟨e, f⟩, ⟨g, i⟩, j, k⟩ := h
  have := lat_bd n0 n1 (d := to) (by omega)
  have z : QOk (pz re hg ha pt to sf now) := ⟨a, b, c, d, e, f, g, i, this.1, this.2, by simp [pz], by simp [pz], by simp [pz], by simp [pz], by simp [pz], by simp [pz], by simp [pz], by simp [pz], by simp [pz, numP], fun r hr => by simp [pz] at hr, fun r hr => by simp [pz] at hr⟩
  exact z.bg n0 n1 (.inl ⟨rfl, rfl⟩)
theorem QOk.r9 {p : Rq} (h : QOk p) : p.R.length ≤ 9 := by
  have := h.len; have := h.m01; have := h.m11; have := h.m21
  unfold numP at *
  omega
theorem QOk.num {p : Rq} (h : QOk p) : 0 ≤ numP p ∧ numP p ≤ 9 := by
  have := h.m00; have := h.m10; have := h.m20; have := h.m01; have := h.m11; have := h.m21
  unfold numP
  omega
/-- The acts of a step, and what the request is then. -/
def dsA (p : Rq) (kd now id why : Int) (al : Bool) : List Ac := if kd = 0 then faA p now id why al else if kd = 1 then heA p now id why al else tmA p now al
def dsP (p : Rq) (kd now id why : Int) (al : Bool) : Rq := if kd = 0 then faP p now id why al else if kd = 1 then heP p now id why al else tmP p now al
theorem QOk.ds {p : Rq} (h : QOk p) (kd now id why : Int) (al : Bool) : QOk (dsP p kd now id why al) := by
  unfold dsP
  split
  · exact h.fa now id why al
  split
  · exact h.he now id why al
  · exact h.tm now al
/-! What a call leaves as it is. -/
def Keep (p q : Rq) : Prop := q.re = p.re ∧ q.en = p.en ∧ q.sf = p.sf ∧ (q.hg = p.hg ∨ q.hg = 0) ∧ q.to = p.to
theorem Keep.refl (p : Rq) : Keep p p := ⟨rfl, rfl, rfl, .inl rfl, rfl⟩
theorem Keep.trans {p q r : Rq} (h : Keep p q) (k : Keep q r) : Keep p r :=
  ⟨k.1.trans h.1, k.2.1.trans h.2.1, k.2.2.1.trans h.2.2.1, k.2.2.2.1.elim (fun e => h.2.2.2.1.elim (fun f => .inl (e.trans f)) (fun f => .inr (e.trans f))) .inr, k.2.2.2.2.trans h.2.2.2.2⟩
theorem Keep.fg (p : Rq) (id : Int) : Keep p (fgP p id) := ⟨rfl, rfl, rfl, .inl rfl, rfl⟩
theorem Keep.bg (p : Rq) (now kd : Int) : Keep p (bgP p now kd) := ⟨rfl, rfl, rfl, .inl rfl, rfl⟩
theorem Keep.lg : ∀ (l : List Int) (p : Rq), Keep p (lgP p l)
  | [], p => Keep.refl p
  | i :: l, p => (Keep.fg p i).trans (Keep.lg l _)
theorem Keep.fl (p : Rq) (now id why : Int) (al : Bool) : Keep p (flP p now id why al) := by
  unfold flP
  split
  · exact (Keep.fg p id).trans (Keep.bg _ _ _)
  · exact Keep.fg p id
theorem Keep.wn (p : Rq) (id : Int) : Keep p (wnP p id) := (Keep.fg p id).trans (Keep.lg _ _)
theorem Keep.hgd (p : Rq) (now : Int) (al : Bool) : Keep p (hgP p now al) := by
  unfold hgP
  split
  · split
    · exact Keep.bg _ _ _
    · exact ⟨rfl, rfl, rfl, .inr rfl, rfl⟩
  · exact Keep.refl p
theorem Keep.ll (now : Int) (al : Bool) : ∀ (l : List Int) (s : Rq × List Ac), Keep s.1 (l.foldl (llS now al) s).1
  | [], s => Keep.refl _
  | i :: l, s => ((Keep.fg s.1 i).trans (Keep.fl _ now i 3 al)).trans (Keep.ll now al l (llS now al s i))
theorem Keep.ds (p : Rq) (kd now id why : Int) (al : Bool) : Keep p (dsP p kd now id why al) := by
  unfold dsP
  split
  · unfold faP; split
    · exact Keep.fl _ _ _ _ _
    · exact Keep.refl p
  split
  · unfold heP; split
    · unfold heP0
      split
      · exact Keep.wn _ _
      split
      · exact Keep.fg _ _
      split
      · exact (Keep.fg _ _).trans (Keep.bg _ _ _)
      · exact Keep.wn _ _
    · exact Keep.refl p
  · unfold tmP; split
    · split
      · exact Keep.lg _ _
      · exact (Keep.ll now al _ (p, [])).trans (Keep.hgd _ _ _)
    · exact Keep.refl p
/-! All let go. -/
theorem lg_R : ∀ (l : List Int) (p : Rq), (lgP p l).R = p.R.filter (fun x => !l.contains x.id)
  | [], p => (List.filter_eq_self.2 (fun _ _ => by simp)).symm
  | i :: l, p => by
    show (lgP (fgP p i) l).R = _
    rw [lg_R l (fgP p i)]
    show (noId i p.R).filter _ = _
    unfold noId isN
    rw [List.filter_filter]
    congr 1
    funext x
    rw [List.contains_cons, Bool.not_or, Bool.and_comm]
theorem lg_all (p : Rq) : (lgP p (ids p.R)).R = [] := by
  rw [lg_R, List.filter_eq_nil_iff]
  intro x hx
  have : (ids p.R).contains x.id = true := by
    rw [List.contains_iff_mem]
    exact List.mem_map.2 ⟨x, hx, rfl⟩
  rw [this]
  simp
theorem wn_R (p : Rq) (id : Int) : (wnP p id).R = [] := lg_all _
/-! AttemptEnds. -/
theorem tm_end {p : Rq} {now : Int} (al : Bool) (h : mom now = true) (he : p.en ≤ now) : (tmP p now al).R = [] ∧ ((tmA p now al).length = 0 ↔ p.R = []) := by
  unfold tmP tmA
  by_cases hr : p.R = []
  · rw [if_neg (fun x => x.2 hr), if_neg (fun x => x.2 hr)]
    exact ⟨hr, fun _ => hr, fun _ => rfl⟩
  · have hc : mom now = true ∧ p.R ≠ [] := ⟨h, hr⟩
    rw [if_pos hc, if_pos hc, if_pos he, if_pos he]
    refine ⟨lg_all p, fun x => ?_, fun x => absurd x hr⟩
    rw [List.length_append] at x
    simp [anA] at x
/-! AttemptSafe. -/
def nor (a : Ac) : Prop := ¬ (a.k = 1 ∧ a.w = 1)
theorem lg_nor (l : List Int) : ∀ a ∈ lgA l, nor a := fun a ha => by
  obtain ⟨i, _, rfl⟩ := List.mem_map.1 ha
  exact fun x => by simp at x
theorem an_nor (i s : Int) : ∀ a ∈ anA i s, nor a := fun a ha => by
  unfold anA at ha; simp at ha; subst ha
  exact fun x => by simp at x
theorem fl_nor {p : Rq} {id why : Int} {al : Bool} (hs : p.sf = false) (hw : ¬ (why = 1 ∨ why = 4)) : ∀ a ∈ flA p id why al, nor a := by
  have hm : mayB (fgP p id) why al = false := by
    unfold mayB
    rw [show (fgP p id).sf = false from hs]
    have h1 : (why == 1) = false := by simpa using fun e => hw (.inl e)
    have h2 : (why == 4) = false := by simpa using fun e => hw (.inr e)
    rw [h1, h2]; simp
  unfold flA
  split
  · rw [if_neg (by rw [hm]; decide)]; exact an_nor _ _
  · intro a ha; simp at ha
theorem wn_nor (p : Rq) (id : Int) : ∀ a ∈ wnA p id, nor a := fun a ha => by
  rcases List.mem_append.1 ha with x | x
  · exact lg_nor _ a x
  · simp at x; subst x; exact fun x => by simp at x
theorem ll_nor (now : Int) (al : Bool) : ∀ (l : List Int) (s : Rq × List Ac), s.1.sf = false → (∀ a ∈ s.2, nor a) → ∀ a ∈ (l.foldl (llS now al) s).2, nor a
  | [], s, _, h => h
  | i :: l, s, hs, h => ll_nor now al l (llS now al s i) ((Keep.fl (fgP s.1 i) now i 3 al).2.2.1.trans hs) (fun a ha => by
      rcases List.mem_append.1 ha with x | x
      · exact h a x
      rcases List.mem_append.1 x with x | x
      · exact lg_nor _ a x
      · exact fl_nor (p := fgP s.1 i) hs (by omega) a x)
theorem ds_nor {p : Rq} {kd now id why : Int} {al : Bool} (hs : p.sf = false) (hw : ¬ (kd = 0 ∧ (why = 1 ∨ why = 4))) : ∀ a ∈ dsA p kd now id why al, nor a := by
  have nil : ∀ a ∈ ([] : List Ac), nor a := fun a ha => by simp at ha
  unfold dsA
  split
  · rename_i hk
    unfold faA
    split
    · exact fl_nor hs (fun x => hw ⟨hk, x⟩)
    · exact nil
  split
  · unfold heA
    split
    · unfold heA0
      split
      · exact wn_nor _ _
      split
      · exact lg_nor _
      have hm : mayB p 5 al = false := by unfold mayB; rw [hs]; simp
      rw [if_neg (by rw [hm]; decide)]
      exact wn_nor _ _
    · exact nil
  · unfold tmA
    split
    · split
      · intro a ha
        rcases List.mem_append.1 ha with x | x
        · exact lg_nor _ a x
        · exact an_nor _ _ a x
      · intro a ha
        rcases List.mem_append.1 ha with x | x
        · exact ll_nor now al _ (p, []) hs nil a x
        · unfold hgA at x
          split at x
          · unfold bgA at x; simp at x; subst x; exact fun y => by simp at y
          · simp at x
    · exact nil
/-! AttemptLone. -/
def not1 (a : Ac) : Prop := ¬ a.k = 1
theorem lg_not1 (l : List Int) : ∀ a ∈ lgA l, not1 a := fun a ha => by
  obtain ⟨i, _, rfl⟩ := List.mem_map.1 ha
  exact fun x => by simp at x
theorem an_not1 (i s : Int) : ∀ a ∈ anA i s, not1 a := fun a ha => by
  unfold anA at ha; simp at ha; subst ha
  exact fun x => by simp at x
theorem wn_not1 (p : Rq) (id : Int) : ∀ a ∈ wnA p id, not1 a := fun a ha => by
  rcases List.mem_append.1 ha with x | x
  · exact lg_not1 _ a x
  · simp at x; subst x; exact fun x => by simp at x
/-- None may be made again, and one runs at most. -/
structure Lone (p : Rq) : Prop where
  re : p.re = 0
  hg : p.hg = 0
  m1 : 0 ≤ p.m1
  m2 : 0 ≤ p.m2
  le : p.R.length ≤ 1
theorem Lone.may {p : Rq} (h : Lone p) (why : Int) (al : Bool) : mayB p why al = false := by
  unfold mayB
  rw [decide_eq_false (by have := h.re; have := h.m1; omega)]; simp
theorem Lone.fg {p : Rq} (h : Lone p) (id : Int) : Lone (fgP p id) := ⟨h.re, h.hg, h.m1, h.m2, Nat.le_trans (noId_len id p.R) h.le⟩
theorem Lone.lg : ∀ (l : List Int) {p : Rq}, Lone p → Lone (lgP p l)
  | [], _, h => h
  | i :: l, p, h => Lone.lg l (h.fg i)
theorem Lone.fl {p : Rq} (h : Lone p) (now id why : Int) (al : Bool) : Lone (flP p now id why al) ∧ ∀ a ∈ flA p id why al, not1 a := by
  have hm := (h.fg id).may why al
  unfold flP flA
  rw [if_neg (fun x => by rw [hm] at x; exact absurd x.2 (by decide)), if_neg (c := mayB (fgP p id) why al = true) (by rw [hm]; decide)]
  refine ⟨h.fg id, ?_⟩
  split
  · exact an_not1 _ _
  · intro a ha; simp at ha
theorem Lone.ll (now : Int) (al : Bool) : ∀ (l : List Int) (s : Rq × List Ac), Lone s.1 → (∀ a ∈ s.2, not1 a) → Lone (l.foldl (llS now al) s).1 ∧ ∀ a ∈ (l.foldl (llS now al) s).2, not1 a
  | [], s, h, k => ⟨h, k⟩
  | i :: l, s, h, k => Lone.ll now al l (llS now al s i) ((h.fg i).fl now i 3 al).1 (fun a ha => by
      rcases List.mem_append.1 ha with x | x
      · exact k a x
      rcases List.mem_append.1 x with x | x
      · exact lg_not1 _ a x
      · exact ((h.fg i).fl now i 3 al).2 a x)
theorem Lone.ds {p : Rq} (h : Lone p) (kd now id why : Int) (al : Bool) : Lone (dsP p kd now id why al) ∧ ∀ a ∈ dsA p kd now id why al, not1 a := by
  have nil : ∀ a ∈ ([] : List Ac), not1 a := fun a ha => by simp at ha
  unfold dsP dsA
  split
  · unfold faP faA
    split
    · exact h.fl now id why al
    · exact ⟨h, nil⟩
  split
  · unfold heP heA
    split
    · unfold heP0 heA0
      have hm : ¬ mayB p 5 al = true := by rw [h.may]; decide
      rw [if_neg hm, if_neg hm]
      split
      · exact ⟨(h.fg id).lg _, wn_not1 _ _⟩
      split
      · exact ⟨h.fg id, lg_not1 _⟩
      · exact ⟨(h.fg id).lg _, wn_not1 _ _⟩
    · exact ⟨h, nil⟩
  · unfold tmP tmA
    split
    · split
      · refine ⟨h.lg _, fun a ha => ?_⟩
        rcases List.mem_append.1 ha with x | x
        · exact lg_not1 _ a x
        · exact an_not1 _ _ a x
      · obtain ⟨h1, h2⟩ := Lone.ll now al (ltL p now) (p, []) h nil
        have hb : hgB (llF p now al (ltL p now)).1 now = false := by
          unfold hgB nhB
          have a := h1.hg
          have b := h1.m2
          rw [show decide ((llF p now al (ltL p now)).1.m2 < (llF p now al (ltL p now)).1.hg) = false from decide_eq_false (by unfold llF; omega)]
          simp
        unfold hgP hgA
        rw [if_neg (by rw [hb]; decide), if_neg (by rw [hb]; exact fun x => by simp at x), List.append_nil]
        exact ⟨h1, h2⟩
    · exact ⟨h, nil⟩
/-! AttemptBounds. -/
structure Bs where
  made : Int
  run : Int → Bool
  ans : Int
def bok (s : Bs) (a : Ac) : Prop := s.ans = 0 ∧ a.c < 16 ∧ (a.c < 0 → a.k = 4) ∧ (a.k = 1 → a.c = s.made ∧ (a.w = 1 ∨ a.w = 2)) ∧ (a.k = 2 ∨ a.k = 3 → s.run a.c = true)
def bnx (s : Bs) (a : Ac) : Bs := ⟨if a.k = 1 then s.made + 1 else s.made, fun i => if i = a.c ∧ a.k = 1 then true else if i = a.c ∧ (a.k = 2 ∨ a.k = 3) then false else s.run i, if a.k = 3 ∨ a.k = 4 then s.ans + 1 else s.ans⟩
def ball : Bs → List Ac → Prop
  | _, [] => True
  | s, a :: l => bok s a ∧ ball (bnx s a) l
def bfin (s : Bs) (l : List Ac) : Bs := l.foldl bnx s
theorem ball_app : ∀ (l m : List Ac) {s : Bs}, ball s l → ball (bfin s l) m → ball s (l ++ m)
  | [], _, _, _, k => k
  | a :: l, m, s, h, k => ⟨h.1, ball_app l m h.2 k⟩
theorem bfin_app (s : Bs) (l m : List Ac) : bfin s (l ++ m) = bfin (bfin s l) m := List.foldl_append
/-- While nothing is answered. -/
structure J0 (p : Rq) (s : Bs) : Prop where
  ok : QOk p
  made : s.made = numP p
  run : ∀ r ∈ p.R, s.run r.id = true
  ans : s.ans = 0
  nd : (ids p.R).Nodup
  m0 : p.m0 = 1
  m1 : p.m1 ≤ p.re
structure J (p : Rq) (s : Bs) : Prop where
  ok : QOk p
  made : s.made = numP p
  run : ∀ r ∈ p.R, s.run r.id = true
  ans : (p.R = [] ∧ s.ans = 1) ∨ (p.R ≠ [] ∧ s.ans = 0)
  nd : (ids p.R).Nodup
  m0 : p.m0 = 1
  m1 : p.m1 ≤ p.re
theorem J0.j {p : Rq} {s : Bs} (h : J0 p s) (hr : p.R ≠ []) : J p s := ⟨h.ok, h.made, h.run, .inr ⟨hr, h.ans⟩, h.nd, h.m0, h.m1⟩
theorem J.j0 {p : Rq} {s : Bs} (h : J p s) (hr : p.R ≠ []) : J0 p s := ⟨h.ok, h.made, h.run, h.ans.elim (fun x => absurd x.1 hr) (·.2), h.nd, h.m0, h.m1⟩
theorem mem_ids {L : List Rn} {i : Int} (h : i ∈ ids L) : ∃ r ∈ L, r.id = i := List.mem_map.1 h
theorem ids_mem {L : List Rn} {r : Rn} (h : r ∈ L) : r.id ∈ ids L := List.mem_map.2 ⟨r, h, rfl⟩
theorem nd_filter {L : List Rn} (q : Rn → Bool) (h : (ids L).Nodup) : (ids (L.filter q)).Nodup := h.sublist (List.filter_sublist.map _)
theorem fg_mem {p : Rq} {id : Int} {r : Rn} : r ∈ (fgP p id).R ↔ r ∈ p.R ∧ r.id ≠ id := by
  show r ∈ noId id p.R ↔ _
  unfold noId isN
  rw [List.mem_filter]
  simp
theorem J0.fg {p : Rq} {s : Bs} (h : J0 p s) (id : Int) : J0 (fgP p id) s := ⟨h.ok.fg id, h.made, fun r hr => h.run r (fg_mem.1 hr).1, h.ans, nd_filter _ h.nd, h.m0, h.m1⟩
/-- One let go. -/
theorem J0.lg1 {p : Rq} {s : Bs} (h : J0 p s) {i : Int} (hi : i ∈ ids p.R) : bok s ⟨2, i, 0⟩ ∧ J0 (fgP p i) (bnx s ⟨2, i, 0⟩) := by
  obtain ⟨r, hr, rfl⟩ := mem_ids hi
  have h1 := h.ok.ri r hr
  have h2 := h.ok.num
  refine ⟨⟨h.ans, by dsimp only; omega, fun x => by dsimp only at x; omega, fun x => by simp at x, fun _ => h.run r hr⟩, ⟨h.ok.fg _, ?_, fun x hx => ?_, ?_, nd_filter _ h.nd, h.m0, h.m1⟩⟩
  · show (if (2 : Int) = 1 then s.made + 1 else s.made) = _
    rw [if_neg (by omega)]; exact h.made
  · obtain ⟨a, b⟩ := fg_mem.1 hx
    show (if x.id = r.id ∧ (2 : Int) = 1 then true else if x.id = r.id ∧ _ then false else s.run x.id) = true
    rw [if_neg (fun y => b y.1), if_neg (fun y => b y.1)]
    exact h.run x a
  · show (if (2 : Int) = 3 ∨ (2 : Int) = 4 then s.ans + 1 else s.ans) = 0
    rw [if_neg (by omega)]; exact h.ans
theorem J0.lg : ∀ (l : List Int) {p : Rq} {s : Bs}, J0 p s → l.Nodup → (∀ i ∈ l, i ∈ ids p.R) → ball s (lgA l) ∧ J0 (lgP p l) (bfin s (lgA l))
  | [], p, s, h, _, _ => ⟨trivial, h⟩
  | i :: l, p, s, h, hn, hi => by
    obtain ⟨h1, h2⟩ := h.lg1 (hi i (List.mem_cons_self ..))
    rw [List.nodup_cons] at hn
    obtain ⟨h3, h4⟩ := J0.lg l h2 hn.2 (fun j hj => by
      obtain ⟨r, hr, rfl⟩ := mem_ids (hi j (List.mem_cons_of_mem _ hj))
      exact ids_mem (fg_mem.2 ⟨hr, fun e => hn.1 (e ▸ hj)⟩))
    exact ⟨⟨h1, h3⟩, h4⟩
/-- One made. -/
theorem J0.bg {p : Rq} {s : Bs} (h : J0 p s) {now kd : Int} (n0 : 0 ≤ now) (n1 : now ≤ 4611686018427387904) (hk : (kd = 1 ∧ p.m1 < p.re) ∨ (kd = 2 ∧ p.m2 < p.hg)) : ball s (bgA p kd) ∧ J0 (bgP p now kd) (bfin s (bgA p kd)) := by
  have h2 := h.ok.num
  have hn : numP (bgP p now kd) = numP p + 1 := by
    unfold numP bgP
    rcases hk with ⟨rfl, _⟩ | ⟨rfl, _⟩ <;> simp <;> omega
  refine ⟨⟨⟨h.ans, by dsimp only; omega, fun x => by dsimp only at x; omega, fun _ => ⟨h.made.symm, by dsimp only; omega⟩, fun x => by dsimp only at x; omega⟩, trivial⟩, ⟨h.ok.bg n0 n1 (hk.elim (fun x => .inr (.inl x)) (fun x => .inr (.inr x))), ?_, fun r hr => ?_, ?_, ?_, ?_, ?_⟩⟩
  · rw [hn]
    show (if (1 : Int) = 1 then s.made + 1 else s.made) = _
    rw [if_pos rfl, h.made]
  · show (if r.id = numP p ∧ (1 : Int) = 1 then true else if r.id = numP p ∧ ((1 : Int) = 2 ∨ (1 : Int) = 3) then false else s.run r.id) = true
    rcases List.mem_append.1 hr with x | x
    · have := h.ok.ri r x
      rw [if_neg (by omega), if_neg (by omega)]
      exact h.run r x
    · simp at x; subst x
      rw [if_pos ⟨rfl, rfl⟩]
  · show (if (1 : Int) = 3 ∨ (1 : Int) = 4 then s.ans + 1 else s.ans) = 0
    rw [if_neg (by omega)]; exact h.ans
  · show (ids (p.R ++ [_])).Nodup
    unfold ids
    rw [List.map_append, List.nodup_append]
    refine ⟨h.nd, by simp, fun a ha b hb e => ?_⟩
    subst e
    obtain ⟨r, hr, rfl⟩ := List.mem_map.1 ha
    simp at hb
    have := h.ok.ri r hr
    omega
  · show (if kd = 0 then p.m0 + 1 else p.m0) = 1
    rw [if_neg (by omega)]; exact h.m0
  · show (if kd = 1 then p.m1 + 1 else p.m1) ≤ p.re
    have := h.m1
    split <;> omega
/-- A status is answered; a response is. -/
theorem J0.an {p : Rq} {s : Bs} (h : J0 p s) {id st : Int} (hr : p.R = []) (hi : id < 16) : ball s (anA id st) ∧ J p (bfin s (anA id st)) := by
  refine ⟨⟨⟨h.ans, hi, fun _ => rfl, fun x => by simp at x, fun x => by simp at x⟩, trivial⟩, ⟨h.ok, ?_, fun r x => by rw [hr] at x; simp at x, .inl ⟨hr, ?_⟩, h.nd, h.m0, h.m1⟩⟩
  · show (if (4 : Int) = 1 then s.made + 1 else s.made) = _
    rw [if_neg (by omega)]; exact h.made
  · show (if (4 : Int) = 3 ∨ (4 : Int) = 4 then s.ans + 1 else s.ans) = 1
    rw [if_pos (by omega), h.ans]; rfl
theorem J0.win {p : Rq} {s : Bs} (h : J0 p s) {id : Int} (hr : p.R = []) (hi : id < 16) (h0 : 0 ≤ id) (hw : s.run id = true) : ball s [⟨3, id, 0⟩] ∧ J p (bfin s [⟨3, id, 0⟩]) := by
  refine ⟨⟨⟨h.ans, hi, fun x => by dsimp only at x; omega, fun x => by simp at x, fun _ => hw⟩, trivial⟩, ⟨h.ok, ?_, fun r x => by rw [hr] at x; simp at x, .inl ⟨hr, ?_⟩, h.nd, h.m0, h.m1⟩⟩
  · show (if (3 : Int) = 1 then s.made + 1 else s.made) = _
    rw [if_neg (by omega)]; exact h.made
  · show (if (3 : Int) = 3 ∨ (3 : Int) = 4 then s.ans + 1 else s.ans) = 1
    rw [if_pos (by omega), h.ans]; rfl
theorem J0.fl {p : Rq} {s : Bs} (h : J0 p s) {now id why : Int} {al : Bool} (n0 : 0 ≤ now) (n1 : now ≤ 4611686018427387904) (hi : id < 16) : ball s (flA p id why al) ∧ J (flP p now id why al) (bfin s (flA p id why al)) := by
  have k := h.fg id
  unfold flA flP
  by_cases hr : (fgP p id).R = []
  · rw [if_pos hr]
    by_cases hm : mayB (fgP p id) why al = true
    · rw [if_pos hm, if_pos ⟨hr, hm⟩]
      obtain ⟨h1, h2⟩ := k.bg n0 n1 (kd := 1) (.inl ⟨rfl, may_lt hm⟩)
      exact ⟨h1, h2.j (by unfold bgP; simp)⟩
    · rw [if_neg hm, if_neg (fun x => hm x.2)]
      exact k.an hr hi
  · rw [if_neg hr, if_neg (fun x => hr x.1)]
    exact ⟨trivial, k.j hr⟩
theorem run_lg : ∀ (l : List Int) (s : Bs) (i : Int), i ∉ l → (bfin s (lgA l)).run i = s.run i
  | [], _, _, _ => rfl
  | j :: l, s, i, h => by
    show (bfin (bnx s ⟨2, j, 0⟩) (lgA l)).run i = _
    rw [run_lg l _ i (fun x => h (List.mem_cons_of_mem _ x))]
    show (if i = j ∧ (2 : Int) = 1 then true else if i = j ∧ _ then false else s.run i) = _
    rw [if_neg (by omega), if_neg (fun x => h (by rw [x.1]; exact List.mem_cons_self ..))]
theorem J0.wn {p : Rq} {s : Bs} (h : J0 p s) {id : Int} (hi : id ∈ ids p.R) : ball s (wnA p id) ∧ J (wnP p id) (bfin s (wnA p id)) := by
  obtain ⟨r, hr, rfl⟩ := mem_ids hi
  have h1 := h.ok.ri r hr
  have h2 := h.ok.num
  have k := h.fg r.id
  obtain ⟨a, b⟩ := J0.lg (ids (fgP p r.id).R) k k.nd (fun i x => x)
  have hne : r.id ∉ ids (fgP p r.id).R := fun x => by
    obtain ⟨y, hy, e⟩ := mem_ids x
    exact (fg_mem.1 hy).2 e
  obtain ⟨c, d⟩ := b.win (id := r.id) (lg_all _) (by omega) (by omega) (by rw [run_lg _ _ _ hne]; exact h.run r hr)
  unfold wnA wnP
  refine ⟨ball_app _ _ a c, ?_⟩
  rw [bfin_app]
  exact d
theorem J0.ll (now : Int) (al : Bool) (n0 : 0 ≤ now) (n1 : now ≤ 4611686018427387904) : ∀ (l : List Int) (x : Rq × List Ac) (s : Bs), ball s x.2 → J0 x.1 (bfin s x.2) → x.1.R ≠ [] → l.Nodup → (∀ i ∈ l, i ∈ ids x.1.R) → ball s (l.foldl (llS now al) x).2 ∧ J (l.foldl (llS now al) x).1 (bfin s (l.foldl (llS now al) x).2)
  | [], x, s, hb, h, hr, _, _ => ⟨hb, h.j hr⟩
  | i :: l, x, s, hb, h, hr, hn, hi => by
    have hin := hi i (List.mem_cons_self ..)
    rw [List.nodup_cons] at hn
    obtain ⟨a, b⟩ := h.lg1 hin
    have h9 := h.ok.num
    have hi16 : i < 16 := by
      obtain ⟨r, hr, rfl⟩ := mem_ids hin
      have := h.ok.ri r hr
      omega
    obtain ⟨c, d⟩ := b.fl (now := now) (id := i) (why := 3) (al := al) n0 n1 hi16
    have hb2 : ball s (llS now al x i).2 := ball_app _ _ hb (ball_app [(⟨2, i, 0⟩ : Ac)] _ ⟨a, trivial⟩ c)
    have e2 : bfin s (llS now al x i).2 = bfin (bnx (bfin s x.2) ⟨2, i, 0⟩) (flA (fgP x.1 i) i 3 al) := by
      show bfin s (x.2 ++ ([(⟨2, i, 0⟩ : Ac)] ++ _)) = _
      rw [bfin_app, bfin_app]; rfl
    match l, hn, hi with
    | [], _, _ =>
      refine ⟨hb2, ?_⟩
      show J (llS now al x i).1 (bfin s (llS now al x i).2)
      rw [e2]
      exact d
    | j :: l, hn, hi =>
      have hj : ∀ t ∈ j :: l, t ∈ ids (fgP x.1 i).R := fun t ht => by
        obtain ⟨r, hr, rfl⟩ := mem_ids (hi t (List.mem_cons_of_mem _ ht))
        exact ids_mem (fg_mem.2 ⟨hr, fun e => hn.1 (e ▸ ht)⟩)
      have hr2 : (fgP (fgP x.1 i) i).R ≠ [] := fun e => by
        obtain ⟨r, hr, he⟩ := mem_ids (hj j (List.mem_cons_self ..))
        have : r ∈ (fgP (fgP x.1 i) i).R := fg_mem.2 ⟨hr, (fg_mem.1 hr).2⟩
        rw [e] at this; simp at this
      have eP : (llS now al x i).1 = fgP (fgP x.1 i) i := by
        show flP (fgP x.1 i) now i 3 al = _
        unfold flP; rw [if_neg (fun y => hr2 y.1)]
      have eA : flA (fgP x.1 i) i 3 al = [] := by unfold flA; rw [if_neg hr2]
      rw [eA] at e2
      have k2 : J0 (llS now al x i).1 (bfin s (llS now al x i).2) := by
        rw [eP, e2]; exact b.fg i
      exact J0.ll now al n0 n1 (j :: l) (llS now al x i) s hb2 k2 (by rw [eP]; exact hr2) hn.2 (fun t ht => by
        rw [eP]
        obtain ⟨r, hr, rfl⟩ := mem_ids (hj t ht)
        exact ids_mem (fg_mem.2 ⟨hr, (fg_mem.1 hr).2⟩))
theorem J.ds {p : Rq} {s : Bs} (h : J p s) (kd now id why : Int) (al : Bool) : ball s (dsA p kd now id why al) ∧ J (dsP p kd now id why al) (bfin s (dsA p kd now id why al)) := by
  have still : ball s [] ∧ J p (bfin s []) := ⟨trivial, h⟩
  have hasr : hasB p id = true → id ∈ ids p.R := fun x => List.contains_iff_mem.1 x
  have ner : id ∈ ids p.R → p.R ≠ [] := fun x e => by rw [e] at x; simp [ids] at x
  have i16 : id ∈ ids p.R → id < 16 := fun x => by
    obtain ⟨r, hr, rfl⟩ := mem_ids x
    have := h.ok.ri r hr
    have := h.ok.num
    omega
  unfold dsA dsP
  split
  · unfold faA faP
    split
    · rename_i x
      obtain ⟨n0, n1⟩ := faE_mom x
      have hin : id ∈ ids p.R := by
        unfold faE at x
        split at x
        · split at x
          · rename_i y; exact hasr y
          · omega
        · omega
      exact (h.j0 (ner hin)).fl n0 n1 (i16 hin)
    · exact still
  split
  · unfold heA heP
    split
    · rename_i x
      obtain ⟨n0, n1⟩ := heE_mom x
      have hin : id ∈ ids p.R := by
        unfold heE at x
        split at x
        · split at x
          · rename_i y; exact hasr y
          · omega
        · omega
      have k := h.j0 (ner hin)
      have k1 := k.lg1 hin
      unfold heA0 heP0
      split
      · exact k.wn hin
      split
      · rename_i hl
        refine ⟨⟨k1.1, trivial⟩, k1.2.j (fun e => ?_)⟩
        have hnd := k.nd
        obtain ⟨r, hr, rfl⟩ := mem_ids hin
        have hall : ∀ y ∈ p.R, y.id = r.id := fun y hy => by
          by_cases e2 : y.id = r.id
          · exact e2
          · have : y ∈ (fgP p r.id).R := fg_mem.2 ⟨hy, e2⟩
            rw [e] at this; simp at this
        match hR : p.R, hl, hnd, hall with
        | a :: b :: l, _, hnd, hall =>
          have e1 := hall a (by simp)
          have e3 := hall b (by simp)
          simp [ids] at hnd
          exact hnd.1.1 (e1.trans e3.symm)
      split
      · rename_i hm
        obtain ⟨a, b⟩ := k1.2.bg n0 n1 (kd := 1) (.inl ⟨rfl, may_lt hm⟩)
        refine ⟨ball_app (lgA [id]) _ ⟨k1.1, trivial⟩ a, ?_⟩
        rw [bfin_app]
        exact b.j (by unfold bgP; simp)
      · exact k.wn hin
    · exact still
  · unfold tmA tmP
    split
    · rename_i x
      obtain ⟨n0, n1⟩ := mom_iff.1 x.1
      have k := h.j0 x.2
      split
      · obtain ⟨a, b⟩ := J0.lg (ids p.R) k k.nd (fun _ y => y)
        obtain ⟨c, d⟩ := b.an (id := -1) (st := 504) (lg_all p) (by omega)
        refine ⟨ball_app _ _ a c, ?_⟩
        rw [bfin_app]
        exact d
      · obtain ⟨a, b⟩ := J0.ll now al n0 n1 (ltL p now) (p, []) s trivial k x.2 (nd_filter _ k.nd) (fun i hi => by
          obtain ⟨r, hr, rfl⟩ := mem_ids hi
          exact ids_mem (List.mem_filter.1 hr).1)
        change ball s (llF p now al (ltL p now)).2 at a
        change J (llF p now al (ltL p now)).1 (bfin s (llF p now al (ltL p now)).2) at b
        generalize llF p now al (ltL p now) = u at a b ⊢
        unfold hgA hgP
        by_cases hg : hgB u.1 now = true
        · have hne : u.1.R ≠ [] := fun e => by
            unfold hgB nhB at hg
            rw [e] at hg
            simp at hg
          rw [if_pos hg]
          cases al with
          | true =>
            rw [if_pos ⟨hg, rfl⟩, if_pos rfl]
            obtain ⟨c, d⟩ := (b.j0 hne).bg n0 n1 (kd := 2) (.inr ⟨rfl, hg_lt hg⟩)
            refine ⟨ball_app _ _ a c, ?_⟩
            rw [bfin_app]
            exact d.j (by unfold bgP; simp)
          | false =>
            rw [if_neg (fun y => by simp at y), if_neg (by decide), List.append_nil]
            refine ⟨a, ⟨?_, b.made, b.run, b.ans, b.nd, b.m0, b.m1⟩⟩
            exact { b.ok with hg0 := by show (0 : Int) ≤ 0; omega, hg1 := by show (0 : Int) ≤ 3; omega }
        · rw [if_neg (fun y => hg y.1), if_neg hg, List.append_nil]
          exact ⟨a, b⟩
    · exact still
/-- Hedges that were made. -/
theorem m2_ds {p : Rq} {H : Int} (h : p.m2 ≤ H) (hh : p.hg ≤ H) (h0 : 0 ≤ H) (kd now id why : Int) (al : Bool) : (dsP p kd now id why al).m2 ≤ H ∧ (dsP p kd now id why al).hg ≤ H := by
  have fl : ∀ (q : Rq) (i y : Int), q.m2 ≤ H → (flP q now i y al).m2 ≤ H := fun q i y hq => by
    unfold flP; split
    · exact hq
    · exact hq
  have lg : ∀ (l : List Int) (q : Rq), q.m2 ≤ H → (lgP q l).m2 ≤ H := fun l => by
    induction l with
    | nil => exact fun q hq => hq
    | cons i l ih => exact fun q hq => ih (fgP q i) hq
  have ll : ∀ (l : List Int) (s : Rq × List Ac), s.1.m2 ≤ H → (l.foldl (llS now al) s).1.m2 ≤ H := fun l => by
    induction l with
    | nil => exact fun q hq => hq
    | cons i l ih => exact fun q hq => ih (llS now al q i) (fl _ _ _ hq)
  have hk := (Keep.ds p kd now id why al).2.2.2.1
  refine ⟨?_, by rcases hk with e | e <;> omega⟩
  unfold dsP
  split
  · unfold faP; split
    · exact fl _ _ _ h
    · exact h
  split
  · unfold heP; split
    · unfold heP0
      split
      · exact lg _ _ h
      split
      · exact h
      split
      · exact h
      · exact lg _ _ h
    · exact h
  · unfold tmP; split
    · split
      · exact lg _ _ h
      · have := ll (ltL p now) (p, []) h
        have hk2 := (Keep.ll now al (ltL p now) (p, [])).2.2.2.1
        unfold hgP
        split
        · rename_i hg
          split
          · have hlt := hg_lt hg
            show (if (2 : Int) = 2 then (llF p now al (ltL p now)).1.m2 + 1 else (llF p now al (ltL p now)).1.m2) ≤ H
            rw [if_pos rfl]
            rcases hk2 with e | e
            · change (llF p now al (ltL p now)).1.hg = p.hg at e; omega
            · change (llF p now al (ltL p now)).1.hg = 0 at e; omega
          · exact this
        · exact this
    · exact h
end Go.Proofs.Ytjfpdenakgifgaa
