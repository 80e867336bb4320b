/- Set: the program's, the document's. -/
import Derived.Test.YtgdaogpgjdefoaaDoorFTell
namespace Go.Proofs.YtgdaogpgjdefoaaDoor
open Go.ChangeShapes Go.WideShapes Go.ChangeAt Go.RowKit Go.Maps

/-- The place of the first field of a name; without one: how many there are. -/
def fi (n : ByteArray) : List (ByteArray × ByteArray) → Nat
  | [] => 0
  | f :: r => if nmB n f then 0 else fi n r + 1
theorem fi_le (n : ByteArray) : ∀ A : List (ByteArray × ByteArray), fi n A ≤ A.length
  | [] => Nat.le_refl _
  | f :: r => by
    unfold fi
    split
    · exact Nat.zero_le _
    · have := fi_le n r
      simp only [List.length_cons]
      omega
def noN (n : ByteArray) (A : List (ByteArray × ByteArray)) (k : Nat) : Prop := ∀ f ∈ A.take k, nmB n f = false
theorem noN_next {n : ByteArray} {A : List (ByteArray × ByteArray)} {k : Nat} (h : noN n A k) (hk : k < A.length) {f : ByteArray × ByteArray} (he : A[k] = f) (h0 : nmB n f = false) : noN n A (k + 1) := by
  intro f' hf
  rw [take_snocF A k hk, List.mem_append] at hf
  rcases hf with hf | hf
  · exact h _ hf
  · simp only [List.mem_singleton] at hf
    rw [hf, he]; exact h0
theorem fi_hit (n : ByteArray) : ∀ (A : List (ByteArray × ByteArray)) (k : Nat) (hk : k < A.length), noN n A k → nmB n A[k] = true → fi n A = k
  | f :: r, 0, _, _, h0 => by unfold fi; rw [if_pos (show nmB n f = true from h0)]
  | f :: r, k + 1, hk, h, h0 => by
    have hf : nmB n f = false := h f (by simp)
    unfold fi
    rw [hf, if_neg (by decide), fi_hit n r k (by simpa using hk) (fun g hg => h g (by rw [List.take_succ_cons]; exact List.mem_cons_of_mem _ hg)) h0]
theorem fi_none (n : ByteArray) : ∀ (A : List (ByteArray × ByteArray)), noN n A A.length → fi n A = A.length
  | [], _ => rfl
  | f :: r, h => by
    have hf : nmB n f = false := h f (by simp)
    unfold fi
    rw [hf, if_neg (by decide), fi_none n r (fun g hg => h g (by rw [List.length_cons, List.take_succ_cons]; exact List.mem_cons_of_mem _ hg))]
    rfl
def setS (A : List (ByteArray × ByteArray)) (n v : ByteArray) : List (ByteArray × ByteArray) := (A.take (fi n A) ++ [(n, v)]) ++ outN (A.drop (fi n A)) n
def setR (n v : ByteArray) : Bool → List (ByteArray × ByteArray) → List (ByteArray × ByteArray)
  | true, [] => []
  | false, [] => [(n, v)]
  | d, f :: r => if nmB n f then (if d then setR n v true r else (n, v) :: setR n v true r) else f :: setR n v d r
theorem setR_true (n v : ByteArray) : ∀ A, setR n v true A = outN A n
  | [] => rfl
  | f :: r => by
    have ih := setR_true n v r
    unfold outN at ih ⊢
    rw [setR]
    cases h : nmB n f with
    | true => rw [if_pos rfl, if_pos rfl, ih, List.filter_cons_of_neg (by rw [h]; simp)]
    | false => rw [if_neg (by simp), ih, List.filter_cons_of_pos (by rw [h]; rfl)]
theorem set_eq (n v : ByteArray) : ∀ A, setR n v false A = setS A n v
  | [] => rfl
  | f :: r => by
    have ih := set_eq n v r
    unfold setS at ih ⊢
    rw [setR]
    cases h : nmB n f with
    | true =>
      rw [if_pos rfl, if_neg (by simp), setR_true]
      have hf : fi n (f :: r) = 0 := by unfold fi; rw [if_pos h]
      rw [hf]
      unfold outN
      simp [h]
    | false =>
      rw [if_neg (by simp), ih]
      have hf : fi n (f :: r) = fi n r + 1 := by conv => lhs; unfold fi; rw [h]; simp
      rw [hf]
      simp
def setE (n v : ByteArray) : Nat := chkF (n, v)
def setO (A : List (ByteArray × ByteArray)) (n v : ByteArray) : List (ByteArray × ByteArray) := if setE n v = 0 then setS A n v else []
set_option maxHeartbeats 2000000 in
theorem indexf_any (w : World) (l : Value) (A : List (ByteArray × ByteArray)) (n : ByteArray) (g : Nat) (hA : Flds w l A) (hs : Sm A) (hg : w.cell? ⟨g, 0, none⟩ = some (.string (lowS n))) :
    Calls Tryd.prog 41 #[l, .func (.func 53) #[] #[.pointer (some ⟨g, 0, none⟩)]] w fun e w' => ∃ r : Int, e = .returned (.int .i64 r) ∧ (r = -1 ∧ fi n A = A.length ∨ r = (fi n A : Nat) ∧ fi n A < A.length) ∧ Below w.heap.size w w' := by
  obtain ⟨a0, c0, rfl, hc0, hcells⟩ := hA
  have HF := hide hcells
  have HS := hide hs
  have hl : A.length ≤ 1048576 := hs.1
  clear hcells hs hc0
  have HG := hide hg
  clear hg
  go_enter Tryd.func41, Tryd.ntmps41
  go_wp2
  go_loopw [8] (fun i wr => ∃ k : Nat, k ≤ A.length ∧ i = .int .i64 k ∧ Hid (noN n A k) ∧ Hid (Below w.heap.size w wr)) (fun i _ => A.length - (intOf i).toNat)
  case atStart => exact ⟨0, Nat.zero_le _, rfl, hide (fun f hf => by simp at hf), hide (Below.refl _ _)⟩
  case round =>
    obtain ⟨k, hk, rfl, HN, HB⟩ := hrel
    by_cases hlt : k < A.length
    · have HNX := hide (fun f he h0 => noN_next HN.out hlt (f := f) he h0)
      have HHT := hide (fun h0 => fi_hit n A k hlt HN.out h0)
      obtain ⟨g1, o1, rfl, hgl, q1, q2⟩ := HF.out k hlt
      obtain ⟨z1, z2⟩ := HS.out.at k hlt
      obtain ⟨fa, fb, hf⟩ : ∃ fa fb, A[k] = (fa, fb) := ⟨_, _, rfl⟩
      rw [hf] at q1 q2 z1 z2 HHT
      have HE := hide hf
      clear hf
      have r1 : wr.cell? ⟨g1, o1 + k * 2, none⟩ = some (.string fa) := (HB.out.cell (p := ⟨g1, o1 + k * 2, none⟩) hgl).trans q1
      have r2 : wr.cell? ⟨g1, o1 + k * 2 + 1, none⟩ = some (.string fb) := (HB.out.cell (p := ⟨g1, o1 + k * 2 + 1, none⟩) hgl).trans q2
      clear q1 q2 hgl
      have hgx : wr.cell? ⟨g, 0, none⟩ = some (.string (lowS n)) := (HB.out.cell (p := ⟨g, 0, none⟩) (World.block_lt_of_cell? w _ HG.out)).trans HG.out
      go_wp2_with fail
      refine (namedf_any fa fb (lowS n) g wr (by unfold maxLen; omega) hgx).mono ?_
      rintro e w2 ⟨rfl, b2⟩
      rw [low_beq fa n fb]
      have HB2 := hide (HB.out.trans (b2.mono HB.out.size))
      clear b2 HB r1 r2 hgx
      cases hb : nmB n (fa, fb) with
      | true =>
        have HI := hide (HHT.out hb)
        clear hb
        go_wp2
        go_ret
        exact ⟨k, rfl, .inr ⟨by rw [HI.out], by rw [HI.out]; exact hlt⟩, HB2.out⟩
      | false =>
        have HN2 := hide (HNX.out _ HE.out hb)
        clear hb
        go_wp2
        exact ⟨⟨k + 1, by omega, by go_num, HN2, HB2⟩, by simp [intOf]; omega⟩
    · have HI := hide (fi_none n A (by have := HN.out; rw [show k = A.length by omega] at this; exact this))
      go_wp2
      go_ret
      exact ⟨-1, rfl, .inl ⟨rfl, HI.out⟩, HB.out⟩
theorem Flds.take {W : World} {a : Option Addr} {m c : Nat} {A : List (ByteArray × ByteArray)} (h : Flds W (.slice a m c) A) (i : Nat) (hi : i ≤ A.length) : Flds W (.slice a i c) (A.take i) := by
  obtain ⟨a', c', he, ⟨hc, hn⟩, hcell⟩ := h
  simp only [Value.slice.injEq] at he
  obtain ⟨rfl, rfl, rfl⟩ := he
  have el : (A.take i).length = i := by rw [List.length_take]; omega
  refine ⟨a, c, by rw [el], ⟨by rw [el]; omega, hn⟩, fun j hj => ?_⟩
  rw [el] at hj
  obtain ⟨g, o, h1, h2, h3, h4⟩ := hcell j (by omega)
  exact ⟨g, o, h1, h2, by rw [List.getElem_take]; exact h3, by rw [List.getElem_take]; exact h4⟩
theorem Flds.drop {W : World} {g o m c : Nat} {A : List (ByteArray × ByteArray)} (h : Flds W (.slice (some ⟨g, o, none⟩) m c) A) (i : Nat) (hi : i ≤ A.length) (o2 : Nat) (ho : o2 = o + i * 2 ∨ A.length ≤ i) : Flds W (.slice (some ⟨g, o2, none⟩) (m - i) (c - i)) (A.drop i) := by
  obtain ⟨a', c', he, ⟨hc, hn⟩, hcell⟩ := h
  simp only [Value.slice.injEq] at he
  obtain ⟨rfl, rfl, rfl⟩ := he
  have el : (A.drop i).length = A.length - i := List.length_drop
  refine ⟨some ⟨g, o2, none⟩, c - i, by rw [el], ⟨by rw [el]; omega, fun h => by cases h⟩, fun j hj => ?_⟩
  rw [el] at hj
  obtain ⟨g', o', h1, h2, h3, h4⟩ := hcell (i + j) (by omega)
  simp only [Option.some.injEq, Addr.mk.injEq, and_true] at h1
  obtain ⟨rfl, rfl⟩ := h1
  rcases ho with rfl | ho
  · refine ⟨g, _, rfl, h2, ?_, ?_⟩
    · rw [List.getElem_drop, show o + i * 2 + j * 2 = o + (i + j) * 2 by omega]; exact h3
    · rw [List.getElem_drop, show o + i * 2 + j * 2 + 1 = o + (i + j) * 2 + 1 by omega]; exact h4
  · omega
theorem Sm.take {A : List (ByteArray × ByteArray)} (h : Sm A) (i : Nat) : Sm (A.take i) := ⟨by rw [List.length_take]; have := h.1; omega, fun f hf => h.2 f (List.mem_of_mem_take hf)⟩
theorem Sm.drop {A : List (ByteArray × ByteArray)} (h : Sm A) (i : Nat) : Sm (A.drop i) := ⟨by rw [List.length_drop]; have := h.1; omega, fun f hf => h.2 f (List.mem_of_mem_drop hf)⟩
theorem VS.withoutm {w x : World} {k : Nat} {a b : ByteArray} (h : VS w x k a b) {l mv : Value} {A : List (ByteArray × ByteArray)} {S : List ByteArray} (hA : Flds w l A) (hs : Sm A) (hm : MapIs x mv S) :
    Calls Tryd.prog 42 #[l, mv] x fun e y => ∃ r, e = .returned r ∧ ∃ ad m c, r = .slice ad m c ∧ y.cell? ⟨k, 0, none⟩ = some (.string a) ∧ y.cell? ⟨k, 1, none⟩ = some (.string b) ∧ Hid (VS w y k a b) ∧ Hid (FRow y (k + 1) (.slice ad m c) (dropS A S)) := by
  refine (h.without hA hs hm).mono ?_
  rintro e y ⟨r, rfl, ad, c, rfl, h1, h2, h3, h4⟩
  exact ⟨_, rfl, ad, _, c, rfl, h1, h2, h3, h4⟩
end Go.Proofs.YtgdaogpgjdefoaaDoor
