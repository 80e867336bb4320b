/- What fields tell of a body's end, as plain functions. -/
import Derived.Test.YtalihfohdejalaaDoorFGet
import Derived.Test.YtalihfohdejalaaDoorFHas
import Derived.Test.YtalihfohdejalaaDoorNum
import Derived.Test.YtalihfohdejalaaDoorBlk
namespace Go.Proofs.YtalihfohdejalaaDoor
open Go.ChangeShapes Go.WideShapes Go.ChangeAt Go.RowKit

def teS : ByteArray := ⟨#[116, 114, 97, 110, 115, 102, 101, 114, 45, 101, 110, 99, 111, 100, 105, 110, 103]⟩
def clS : ByteArray := ⟨#[99, 111, 110, 116, 101, 110, 116, 45, 108, 101, 110, 103, 116, 104]⟩
def coS : ByteArray := ⟨#[99, 111, 110, 110, 101, 99, 116, 105, 111, 110]⟩
def shutS : ByteArray := ⟨#[99, 108, 111, 115, 101]⟩
def kaS : ByteArray := ⟨#[107, 101, 101, 112, 45, 97, 108, 105, 118, 101]⟩
def chS : ByteArray := ⟨#[99, 104, 117, 110, 107, 101, 100]⟩

/-- A connection is kept. -/
def keepB (A : List (ByteArray × ByteArray)) (m : Int) : Bool := if hasB A coS shutS then false else if m = 0 then hasB A coS kaS else decide (m = 1)
/-- A name is told. -/
def toldB (A : List (ByteArray × ByteArray)) (n : ByteArray) : Bool := decide (0 < (allS A n).length)
/-- Elements that are one number. -/
def oneIs (I : List ByteArray) (n : Nat) : Bool := I.all fun x => decide (numE 10 x.data.toList = 0 ∧ numV 10 x.data.toList = n)
def firstN : List ByteArray → Nat
  | [] => 0
  | x :: _ => numV 10 x.data.toList
def lenOk (I : List ByteArray) : Bool := !I.isEmpty && oneIs I (firstN I)
def lenN (I : List ByteArray) : Nat := if lenOk I then firstN I else 0
def codeOk (A : List (ByteArray × ByteArray)) (m : Int) : Bool := decide (m = 1) && decide (itemsS A teS = [chS])
/-- A framing, and what is wrong. -/
structure Fo where
  k : Int
  n : Int
  b : Bool
  e : Int
def toldO (A : List (ByteArray × ByteArray)) (m : Int) (k : Int) (b : Bool) : Fo :=
  if toldB A teS && toldB A clS then ⟨0, 0, false, 91⟩ else if toldB A teS && !codeOk A m then ⟨0, 0, false, 92⟩ else if toldB A clS && !lenOk (itemsS A clS) then ⟨0, 0, false, 90⟩
  else if toldB A teS then ⟨3, 0, keepB A m, 0⟩ else if toldB A clS then ⟨2, (lenN (itemsS A clS) : Nat), keepB A m, 0⟩ else ⟨k, 0, b, 0⟩
def reqO (A : List (ByteArray × ByteArray)) (r : Bool) (m : Int) : Fo := if r then toldO A m 1 (keepB A m) else ⟨0, 0, false, 1⟩
def headS : ByteArray := ⟨#[72, 69, 65, 68]⟩
def resO (A : List (ByteArray × ByteArray)) (r : Bool) (m st : Int) (me : ByteArray) : Fo :=
  if r then ⟨0, 0, false, 1⟩ else if st < 200 ∨ st = 204 ∨ st = 304 ∨ me = headS then ⟨1, 0, keepB A m, 0⟩ else toldO A m 4 false
def frV (k n : Int) (b : Bool) : Value := .agg #[.int .i64 k, .int .i64 n, .bool b]
def foV (o : Fo) : Value := .tuple #[frV o.k o.n o.b, .int .i64 o.e]
def hdC (r : Bool) (me ta : ByteArray) (mi st : Int) (re : ByteArray) (l : Value) : Array Value := #[.bool r, .string me, .string ta, .int .i64 mi, .int .i64 st, .string re, l]

theorem Bl.hd {w x : World} {L : List (Array Value × TypeId)} (h : Bl w x L) (i g : Nat) (hg : g = w.heap.size + i) {r : Bool} {me ta : ByteArray} {mi st : Int} {re : ByteArray} {l : Value} {t : TypeId} (hi : L[i]? = some (#[.bool r, .string me, .string ta, .int .i64 mi, .int .i64 st, .string re, l], t)) :
    x.cell? ⟨g, 0, none⟩ = some (.bool r) ∧ x.cell? ⟨g, 1, none⟩ = some (.string me) ∧ x.cell? ⟨g, 2, none⟩ = some (.string ta) ∧ x.cell? ⟨g, 3, none⟩ = some (.int .i64 mi) ∧ x.cell? ⟨g, 4, none⟩ = some (.int .i64 st) ∧ x.cell? ⟨g, 5, none⟩ = some (.string re) ∧ x.cell? ⟨g, 6, none⟩ = some l := by
  subst hg
  exact ⟨h.cell i hi 0, h.cell i hi 1, h.cell i hi 2, h.cell i hi 3, h.cell i hi 4, h.cell i hi 5, h.cell i hi 6⟩
theorem Bl.st {w x : World} {L : List (Array Value × TypeId)} (h : Bl w x L) (i g : Nat) (hg : g = w.heap.size + i) {a b c : Value} {t : TypeId} (hi : L[i]? = some (#[a, b, c], t)) :
    x.cell? ⟨g, 0, none⟩ = some a ∧ x.cell? ⟨g, 1, none⟩ = some b ∧ x.cell? ⟨g, 2, none⟩ = some c ∧ x.frozen? ⟨g, 0, none⟩ = false ∧ x.frozen? ⟨g, 1, none⟩ = false ∧ x.frozen? ⟨g, 2, none⟩ = false := by
  subst hg
  exact ⟨h.cell i hi 0, h.cell i hi 1, h.cell i hi 2, h.fr i hi 0, h.fr i hi 1, h.fr i hi 2⟩
theorem set3 {n : Nat} {w x : World} {g : Nat} (h : Below n w x) (hg : n ≤ g) (a b c : Value) : Below n w (((x.setCell ⟨g, 0, none⟩ a).setCell ⟨g, 1, none⟩ b).setCell ⟨g, 2, none⟩ c) :=
  ((h.setCell (p := ⟨g, 0, none⟩) hg a).setCell (p := ⟨g, 1, none⟩) hg b).setCell (p := ⟨g, 2, none⟩) hg c
theorem st3 {w x : World} {L : List (Array Value × TypeId)} (h : Bl w x L) (i g : Nat) (hg : g = w.heap.size + i) {a b c : Value} {t : TypeId} (hi : L[i]? = some (#[a, b, c], t)) (k n : Int) (q : Bool) :
    (((x.setCell ⟨g, 0, none⟩ (.int .i64 k)).setCell ⟨g, 1, none⟩ (.int .i64 n)).setCell ⟨g, 2, none⟩ (.bool q)).cell? ⟨g, 0, none⟩ = some (.int .i64 k) ∧
    (((x.setCell ⟨g, 0, none⟩ (.int .i64 k)).setCell ⟨g, 1, none⟩ (.int .i64 n)).setCell ⟨g, 2, none⟩ (.bool q)).cell? ⟨g, 1, none⟩ = some (.int .i64 n) ∧
    (((x.setCell ⟨g, 0, none⟩ (.int .i64 k)).setCell ⟨g, 1, none⟩ (.int .i64 n)).setCell ⟨g, 2, none⟩ (.bool q)).cell? ⟨g, 2, none⟩ = some (.bool q) ∧
    Below w.heap.size w (((x.setCell ⟨g, 0, none⟩ (.int .i64 k)).setCell ⟨g, 1, none⟩ (.int .i64 n)).setCell ⟨g, 2, none⟩ (.bool q)) := by
  subst hg
  have h3 := hp_set (hp_set (hp_set (h.hp i _ _ hi) 0 (.int .i64 k)) 1 (.int .i64 n)) 2 (.bool q)
  exact ⟨cell_at h3 0, cell_at h3 1, cell_at h3 2, set3 h.b (by omega) _ _ _⟩
theorem oneIs_no {I : List ByteArray} {n k : Nat} (hk : k < I.length) {x : ByteArray} (hx : I[k] = x) (h : ¬ (numE 10 x.data.toList = 0 ∧ numV 10 x.data.toList = n)) : oneIs I n = false := by
  cases hb : oneIs I n with
  | false => rfl
  | true =>
    unfold oneIs at hb
    have := List.all_eq_true.1 hb I[k] (List.getElem_mem hk)
    rw [hx] at this
    exact absurd (of_decide_eq_true this) h
theorem oneIs_snoc {I : List ByteArray} {n k : Nat} (hk : k < I.length) {x : ByteArray} (hx : I[k] = x) (h : oneIs (I.take k) n = true) (h2 : numE 10 x.data.toList = 0 ∧ numV 10 x.data.toList = n) : oneIs (I.take (k + 1)) n = true := by
  unfold oneIs at h ⊢
  rw [take_snocF I k hk, hx, List.all_append, h]
  simp [h2]
theorem lenOk_cons {I : List ByteArray} (h : 0 < I.length) : lenOk I = oneIs I (firstN I) := by
  cases I with
  | nil => simp at h
  | cons x r => simp [lenOk]
theorem firstN_at {I : List ByteArray} (h : 0 < I.length) {x : ByteArray} (hx : I[0] = x) : firstN I = numV 10 x.data.toList := by
  cases I with
  | nil => simp at h
  | cons y r => simp at hx; subst hx; rfl
theorem num_topN (l : List UInt8) : numV 10 l ≤ 9007199254740992 := by
  unfold numV
  split
  · exact Nat.zero_le _
  · have := accu_le 10 (by decide) l
    unfold top at *
    omega
theorem lenN_le (I : List ByteArray) : lenN I ≤ 9007199254740992 := by
  unfold lenN
  split
  · cases I with
    | nil => simp [firstN]
    | cons x r => exact num_topN _
  · exact Nat.zero_le _

/- Great letters: the same framing. -/
def upc (c : UInt8) : UInt8 := if 97 ≤ c.toNat ∧ c.toNat ≤ 122 then UInt8.ofNat (c.toNat - 32) else c
def upS (s : ByteArray) : ByteArray := ⟨(s.data.toList.map upc).toArray⟩
def upF (f : ByteArray × ByteArray) : ByteArray × ByteArray := (upS f.1, upS f.2)
theorem upc_all : ∀ n : Fin 256, lowc (upc (UInt8.ofNat n.val)) = lowc (UInt8.ofNat n.val) ∧ blankc (upc (UInt8.ofNat n.val)) = blankc (UInt8.ofNat n.val) ∧ (upc (UInt8.ofNat n.val) = 44 ↔ UInt8.ofNat n.val = 44) ∧ (upc (UInt8.ofNat n.val) = 92 ↔ UInt8.ofNat n.val = 92) ∧ (upc (UInt8.ofNat n.val) = 34 ↔ UInt8.ofNat n.val = 34) := by decide +kernel
theorem upc_at (c : UInt8) : lowc (upc c) = lowc c ∧ blankc (upc c) = blankc c ∧ (upc c = 44 ↔ c = 44) ∧ (upc c = 92 ↔ c = 92) ∧ (upc c = 34 ↔ c = 34) := by
  have h := upc_all ⟨c.toNat, UInt8.toNat_lt c⟩
  simpa using h
theorem upS_list (s : ByteArray) : (upS s).data.toList = s.data.toList.map upc := by simp [upS]
theorem upS_size (s : ByteArray) : (upS s).size = s.size := by
  rw [← size_len, upS_list, List.length_map, size_len]
theorem low_up (l : List UInt8) : lowerB (l.map upc) = lowerB l := by
  unfold lowerB
  rw [List.map_map]
  exact List.map_congr_left fun c _ => (upc_at c).1
theorem lowS_upS (s : ByteArray) : lowS (upS s) = lowS s := by
  unfold lowS
  rw [upS_list, low_up]
theorem nm_up (n : ByteArray) (f : ByteArray × ByteArray) : nmB n (upF f) = nmB n f := by
  unfold nmB sameB upF
  rw [upS_list, low_up]
theorem allS_up (A : List (ByteArray × ByteArray)) (n : ByteArray) : allS (A.map upF) n = (allS A n).map upS := by
  unfold allS
  induction A with
  | nil => rfl
  | cons f r ih =>
    simp only [List.map_cons, List.filter_cons, nm_up]
    cases nmB n f
    · simpa using ih
    · simp only [if_true, List.map_cons, ih]; rfl
theorem nx_up (q k : Bool) (c : UInt8) : nx q k (upc c) = nx q k c := by
  unfold nx
  simp only [(upc_at c).2.2.2.1, (upc_at c).2.2.2.2]
theorem pend_up : ∀ (l : List UInt8) (q k : Bool), pend q k (l.map upc) = pend q k l
  | [], _, _ => rfl
  | c :: r, q, k => by
    simp only [List.map_cons, pend, nx_up, (upc_at c).2.2.1, pend_up r]
theorem dropWhile_up (l : List UInt8) : (l.map upc).dropWhile blankc = (l.dropWhile blankc).map upc := by
  induction l with
  | nil => rfl
  | cons c r ih =>
    simp only [List.map_cons, List.dropWhile_cons, (upc_at c).2.1]
    cases blankc c
    · rfl
    · exact ih
theorem trim_up (l : List UInt8) : trimB (l.map upc) = (trimB l).map upc := by
  rw [trimB_eq, trimB_eq]
  unfold ltrim rtrim
  rw [← List.map_reverse, dropWhile_up, ← List.map_reverse, dropWhile_up]
theorem elem_up (p : List UInt8) : elem (p.map upc) = (elem p).map (List.map upc) := by
  unfold elem
  rw [trim_up]
  by_cases h : trimB p = []
  · rw [h]; rfl
  · rw [if_neg h, if_neg (by simpa using h)]; rfl
theorem list_up (l : List UInt8) : listB (l.map upc) = (listB l).map (List.map upc) := by
  induction h : l.length using Nat.strongRecOn generalizing l with
  | ind n ih =>
    by_cases h0 : l = []
    · subst h0; simp [listB_nil]
    · have hp : 0 < l.length := List.length_pos_iff.2 h0
      rw [listB_cons h0, listB_cons (by simpa using h0), pend_up, List.map_append, ← elem_up, ← List.map_take, ← List.map_drop, ih _ (by rw [List.length_drop]; omega) _ rfl]
theorem small_up (v : ByteArray) : smallS (upS v) = smallS v := by
  unfold smallS listS
  rw [upS_list, list_up, List.map_map, List.map_map, List.map_map]
  refine List.map_congr_left fun x _ => ?_
  show lowS (sS (x.map upc)) = lowS (sS x)
  unfold lowS sS
  simp [low_up]
theorem items_up (A : List (ByteArray × ByteArray)) (n : ByteArray) : itemsS (A.map upF) n = itemsS A n := by
  unfold itemsS itemsV
  rw [allS_up, List.flatMap_map]
  congr 1
  funext v
  exact small_up v
theorem has_up (A : List (ByteArray × ByteArray)) (n i : ByteArray) : hasB (A.map upF) n i = hasB A n i := by
  unfold hasB
  rw [items_up]
theorem keep_up (A : List (ByteArray × ByteArray)) (m : Int) : keepB (A.map upF) m = keepB A m := by
  unfold keepB
  rw [has_up, has_up]
theorem told_up (A : List (ByteArray × ByteArray)) (n : ByteArray) : toldB (A.map upF) n = toldB A n := by
  unfold toldB
  rw [allS_up, List.length_map]
theorem toldO_up (A : List (ByteArray × ByteArray)) (m k : Int) (b : Bool) : toldO (A.map upF) m k b = toldO A m k b := by
  unfold toldO codeOk
  rw [told_up, told_up, items_up, items_up, keep_up]
theorem req_up (A : List (ByteArray × ByteArray)) (r : Bool) (m : Int) : reqO (A.map upF) r m = reqO A r m := by
  unfold reqO
  rw [toldO_up, keep_up]
theorem res_up (A : List (ByteArray × ByteArray)) (r : Bool) (m st : Int) (me : ByteArray) : resO (A.map upF) r m st me = resO A r m st me := by
  unfold resO
  rw [toldO_up, keep_up]
theorem sm_up {A : List (ByteArray × ByteArray)} (h : Sm A) : Sm (A.map upF) := by
  refine ⟨by rw [List.length_map]; exact h.1, fun f hf => ?_⟩
  obtain ⟨g, hg, rfl⟩ := List.mem_map.1 hf
  have := h.2 g hg
  unfold upF
  simp only [upS_size]
  exact this

/- One length more. -/
def moreN : ByteArray := ⟨#[67, 111, 110, 116, 101, 110, 116, 45, 76, 101, 110, 103, 116, 104]⟩
def decS (n : Nat) : ByteArray := sS (Lib.decDigits n)
theorem digv_plain : ∀ n : Fin 256, digv (UInt8.ofNat n.val) < 10 → UInt8.ofNat n.val ≠ 44 ∧ UInt8.ofNat n.val ≠ 92 ∧ UInt8.ofNat n.val ≠ 34 ∧ blankc (UInt8.ofNat n.val) = false ∧ lowc (UInt8.ofNat n.val) = UInt8.ofNat n.val := by decide +kernel
theorem digv_at (c : UInt8) (h : digv c < 10) : c ≠ 44 ∧ c ≠ 92 ∧ c ≠ 34 ∧ blankc c = false ∧ lowc c = c := by
  have := digv_plain ⟨c.toNat, UInt8.toNat_lt c⟩
  simp only [UInt8.ofNat_toNat] at this
  exact this h
theorem pend_dig : ∀ (l : List UInt8), (∀ c ∈ l, digv c < 10) → pend false false l = l.length
  | [], _ => rfl
  | c :: r, h => by
    have hc := digv_at c (h c (by simp))
    rw [pend, if_neg (by simp [hc.1])]
    have : nx false false c = (false, false) := by simp [nx, hc.2.2.1]
    rw [this, pend_dig r (fun x hx => h x (List.mem_cons_of_mem _ hx))]
    rfl
theorem trim_dig (l : List UInt8) (h : ∀ c ∈ l, digv c < 10) : trimB l = l := by
  have := (trim_id l).2 ⟨fun c hc => (digv_at c (h c (List.mem_of_mem_head? hc))).2.2.2.1, fun c hc => (digv_at c (h c (List.mem_of_mem_getLast? hc))).2.2.2.1⟩
  exact this.symm
theorem list_dig (l : List UInt8) (h : ∀ c ∈ l, digv c < 10) (h0 : l ≠ []) : listB l = [l] := by
  rw [listB_cons h0, pend_dig l h, List.take_length, List.drop_of_length_le (by omega), listB_nil]
  unfold elem
  rw [trim_dig l h, if_neg h0]
  rfl
theorem low_dig (l : List UInt8) (h : ∀ c ∈ l, digv c < 10) : lowerB l = l := by
  unfold lowerB
  rw [List.map_congr_left (g := id) (fun c hc => (digv_at c (h c hc)).2.2.2.2)]
  simp
theorem dec_dig (n : Nat) (h : n ≤ top) : ∀ c ∈ Lib.decDigits n, digv c < 10 := by
  intro c hc
  have := List.all_eq_true.1 (decD_back n h).1 c hc
  exact of_decide_eq_true this
theorem small_dec (n : Nat) (h : n ≤ top) : smallS (decS n) = [decS n] := by
  unfold smallS listS decS
  rw [sS_list, list_dig _ (dec_dig n h) (decD_ne n)]
  simp only [List.map_cons, List.map_nil]
  unfold lowS
  rw [sS_list, low_dig _ (dec_dig n h)]
  rfl
theorem num_decS (n : Nat) (h : n ≤ top) : numE 10 (decS n).data.toList = 0 ∧ numV 10 (decS n).data.toList = n := by
  unfold decS
  rw [sS_list]
  exact ⟨(num_dec h).2, (num_dec h).1⟩
theorem nm_more (v : ByteArray) : nmB teS (moreN, v) = false ∧ nmB clS (moreN, v) = true ∧ nmB coS (moreN, v) = false := by
  have h1 : sameB moreN.data.toList teS.data.toList = false := by decide +kernel
  have h2 : sameB moreN.data.toList clS.data.toList = true := by decide +kernel
  have h3 : sameB moreN.data.toList coS.data.toList = false := by decide +kernel
  exact ⟨h1, h2, h3⟩
def withN (A : List (ByteArray × ByteArray)) (n : Nat) (front : Bool) : List (ByteArray × ByteArray) := if front then (moreN, decS n) :: A else A ++ [(moreN, decS n)]
theorem all_with (A : List (ByteArray × ByteArray)) (n : Nat) (front : Bool) : allS (withN A n front) teS = allS A teS ∧ allS (withN A n front) coS = allS A coS ∧ allS (withN A n front) clS = if front then decS n :: allS A clS else allS A clS ++ [decS n] := by
  have h := nm_more (decS n)
  unfold withN allS
  cases front
  · simp only [if_false, Bool.false_eq_true, List.filter_append, List.map_append, List.filter_cons, List.filter_nil, h.1, h.2.1, h.2.2, if_true]
    simp
  · simp only [if_true, List.filter_cons, h.1, h.2.1, h.2.2, Bool.false_eq_true, if_false]
    simp
theorem items_with (A : List (ByteArray × ByteArray)) (n : Nat) (front : Bool) (h : n ≤ top) : itemsS (withN A n front) clS = if front then decS n :: itemsS A clS else itemsS A clS ++ [decS n] := by
  unfold itemsS
  rw [(all_with A n front).2.2]
  cases front
  · simp only [Bool.false_eq_true, if_false, itemsV, List.flatMap_append, List.flatMap_cons, List.flatMap_nil, small_dec n h]
    simp
  · simp only [if_true, itemsV, List.flatMap_cons, small_dec n h]
    rfl
theorem items_te (A : List (ByteArray × ByteArray)) (n : Nat) (front : Bool) : itemsS (withN A n front) teS = itemsS A teS := by
  unfold itemsS
  rw [(all_with A n front).1]
theorem keep_with (A : List (ByteArray × ByteArray)) (n : Nat) (front : Bool) (m : Int) : keepB (withN A n front) m = keepB A m := by
  unfold keepB hasB itemsS
  rw [(all_with A n front).2.1]
theorem told_te (A : List (ByteArray × ByteArray)) (n : Nat) (front : Bool) : toldB (withN A n front) teS = toldB A teS := by
  unfold toldB
  rw [(all_with A n front).1]
theorem told_cl (A : List (ByteArray × ByteArray)) (n : Nat) (front : Bool) : toldB (withN A n front) clS = true := by
  unfold toldB
  rw [(all_with A n front).2.2]
  cases front <;> simp
theorem one_other {I : List ByteArray} {a b : Nat} (h0 : 0 < I.length) (h : oneIs I a = true) : oneIs I b = decide (a = b) := by
  by_cases he : a = b
  · subst he; rw [h]; simp
  · rw [decide_eq_false he]
    refine oneIs_no h0 rfl ?_
    rintro ⟨_, h2⟩
    unfold oneIs at h
    have := of_decide_eq_true (List.all_eq_true.1 h I[0] (List.getElem_mem h0))
    exact he (this.2.symm.trans h2)
theorem len_with (I : List ByteArray) (n : Nat) (front : Bool) (h : n ≤ top) (hI : lenOk I = true) : lenOk (if front then decS n :: I else I ++ [decS n]) = decide (lenN I = n) := by
  have h0 : 0 < I.length := by
    cases I with
    | nil => simp [lenOk] at hI
    | cons x r => simp
  have h1 : oneIs I (firstN I) = true := by rw [← lenOk_cons h0]; exact hI
  have hl : lenN I = firstN I := by unfold lenN; rw [hI]; rfl
  rw [hl]
  have hd := num_decS n h
  cases front
  · rw [if_neg (by simp), lenOk_cons (by simp)]
    have hf : firstN (I ++ [decS n]) = firstN I := by
      cases I with
      | nil => simp at h0
      | cons x r => rfl
    rw [hf]
    unfold oneIs at h1 ⊢
    rw [List.all_append, h1]
    simp only [List.all_cons, List.all_nil, hd.1, hd.2, true_and, Bool.true_and, Bool.and_true]
    rw [Bool.eq_iff_iff]
    simp only [decide_eq_true_eq]
    exact ⟨Eq.symm, Eq.symm⟩
  · rw [if_pos rfl, lenOk_cons (by simp)]
    have hf : firstN (decS n :: I) = n := hd.2
    rw [hf]
    have : oneIs (decS n :: I) n = oneIs I n := by
      unfold oneIs
      rw [List.all_cons, decide_eq_true hd]
      rfl
    rw [this, one_other h0 h1]
theorem len_alone (n : Nat) (h : n ≤ top) : lenOk [decS n] = true ∧ lenN [decS n] = n := by
  have hd := num_decS n h
  have h1 : lenOk [decS n] = true := by
    rw [lenOk_cons (by simp)]
    unfold oneIs
    simp [firstN, hd.1]
  exact ⟨h1, by unfold lenN; rw [h1]; exact hd.2⟩
theorem items_none {A : List (ByteArray × ByteArray)} {n : ByteArray} (h : toldB A n = false) : itemsS A n = [] := by
  unfold toldB at h
  have : allS A n = [] := List.eq_nil_of_length_eq_zero (by have := of_decide_eq_false h; omega)
  unfold itemsS
  rw [this]
  rfl
/-- No two readings. -/
theorem one_reading (A : List (ByteArray × ByteArray)) (m : Int) (n : Nat) (front : Bool) (h : n ≤ top) (h0 : (reqO A true m).e = 0) :
    ((reqO A true m).k = 3 → (reqO (withN A n front) true m).e = 91) ∧
    ((reqO A true m).k = 2 → ((reqO (withN A n front) true m).e = if (reqO A true m).n = n then 0 else 90)) ∧
    ((reqO A true m).k ≠ 3 → (reqO A true m).k ≠ 2 → (reqO (withN A n front) true m).e = 0 ∧ (reqO (withN A n front) true m).k = 2 ∧ (reqO (withN A n front) true m).n = n) := by
  unfold reqO at h0 ⊢
  rw [if_pos rfl] at h0 ⊢
  rw [if_pos rfl]
  have hw : toldO (withN A n front) m 1 (keepB (withN A n front) m) = if toldB A teS then ⟨0, 0, false, 91⟩ else if !lenOk (itemsS (withN A n front) clS) then ⟨0, 0, false, 90⟩ else ⟨2, (lenN (itemsS (withN A n front) clS) : Nat), keepB A m, 0⟩ := by
    unfold toldO
    rw [told_te, told_cl, keep_with]
    cases toldB A teS <;> simp
  rw [hw, items_with A n front h]
  unfold toldO at h0 ⊢
  cases hte : toldB A teS <;> cases hcl : toldB A clS <;> simp only [hte, hcl, Bool.and_true, Bool.and_false, Bool.false_eq_true, if_false, if_true, Bool.true_and, Bool.false_and] at h0 ⊢
  · have hi := items_none hcl
    rw [hi]
    have hal := len_alone n h
    refine ⟨fun hh => by simp at hh, fun hh => by simp at hh, fun _ _ => ?_⟩
    cases front <;> simp [hal.1, hal.2]
  · cases hlo : lenOk (itemsS A clS) <;> simp only [hlo, Bool.not_true, Bool.not_false, if_true, Bool.false_eq_true, if_false] at h0 ⊢
    · simp at h0
    · refine ⟨fun hh => by simp at hh, fun _ => ?_, fun _ hh => by simp at hh⟩
      rw [len_with _ n front h hlo]
      by_cases he : lenN (itemsS A clS) = n
      · simp [he]
      · have he2 : ¬ ((lenN (itemsS A clS) : Int) = (n : Int)) := by omega
        simp [he, he2]
  · cases hco : codeOk A m <;> simp only [hco, Bool.not_true, Bool.not_false, if_true, Bool.false_eq_true, if_false] at h0 ⊢
    · simp at h0
    · exact ⟨fun _ => trivial, fun hh => by simp at hh, fun hh => by simp at hh⟩
  · simp at h0
end Go.Proofs.YtalihfohdejalaaDoor
