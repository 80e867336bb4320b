/- A reader of chunks. -/
import Derived.Test.YtggeihahbgeneaaDoorBNew
import Derived.Test.YtggeihahbgeneaaDoorCBndP
namespace Go.Proofs.YtggeihahbgeneaaDoor
open Go.ChangeShapes Go.WideShapes Go.ChangeAt Go.RowKit

/-- The framing's block and its decoder. -/
structure Pt (w : World) (base g gd : Nat) (lv tv : Value) (t : Tal) (d : Dz) : Prop where
  fr : Fr w g 68 t [.pointer (some ⟨gd, 0, none⟩)]
  dec : Dec w base gd lv tv d
  fb : base ≤ g
  gd : g ≠ gd
  gl : lv.ownBlock ≠ some g
  gt : tv.ownBlock ≠ some g
theorem Pt.below {w w' : World} {base g gd : Nat} {lv tv : Value} {t : Tal} {d : Dz} (h : Pt w base g gd lv tv t d) (b : Below w.heap.size w w') : Pt w' base g gd lv tv t d :=
  ⟨h.fr.below b, h.dec.below b, h.fb, h.gd, h.gl, h.gt⟩
/-- What may have changed. -/
structure GK (w w' : World) (g gd : Nat) (lv tv lv' tv' : Value) : Prop where
  os : w'.os = w.os
  tape : w'.tape = w.tape
  output : w'.output = w.output
  size : w.heap.size ≤ w'.heap.size
  block : ∀ k, k < w.heap.size → k ≠ g → k ≠ gd → lv.ownBlock ≠ some k → tv.ownBlock ≠ some k → w'.heap[k]? = w.heap[k]?
  la : ∀ k, k < w.heap.size → lv.ownBlock ≠ some k → lv'.ownBlock ≠ some k
  fa : ∀ k, k < w.heap.size → tv.ownBlock ≠ some k → tv'.ownBlock ≠ some k
theorem GK.of_PK {w w' : World} {g gd : Nat} {lv tv lv' tv' : Value} (k : PK w w' gd lv tv lv' tv') : GK w w' g gd lv tv lv' tv' := ⟨k.os, k.tape, k.output, k.size, fun i hi _ h2 h3 h4 => k.block i hi h2 h3 h4, k.la, k.fa⟩
theorem GK.set {w w' : World} {g gd : Nat} {lv tv lv' tv' : Value} (k : GK w w' g gd lv tv lv' tv') (i : Nat) (v : Value) : GK w (w'.setCell ⟨g, i, none⟩ v) g gd lv tv lv' tv' :=
  ⟨k.os, k.tape, k.output, by simpa using k.size, fun j hj h1 h2 h3 h4 => (Below.heap_setCell w' ⟨g, i, none⟩ v j h1).trans (k.block j hj h1 h2 h3 h4), k.la, k.fa⟩
theorem GK.low {w w' : World} {base g gd : Nat} {lv tv lv' tv' : Value} {t : Tal} {d : Dz} (h : Pt w base g gd lv tv t d) (k : GK w w' g gd lv tv lv' tv') : Below base w w' :=
  ⟨k.os, k.tape, k.output, k.size, fun j hj => k.block j (by have := h.dec.lt; have := h.dec.gb; omega) (by have := h.fb; omega) (by have := h.dec.gb; omega) (fun e => by have := (h.dec.line.lt e).1; omega) (fun e => by have := (h.dec.trs.lt e).1; omega)⟩
theorem Dec.set_other {w : World} {base gd : Nat} {lv tv : Value} {d : Dz} (h : Dec w base gd lv tv d) {g : Nat} (h1 : g ≠ gd) (h2 : lv.ownBlock ≠ some g) (h3 : tv.ownBlock ≠ some g) (i : Nat) (v : Value) : Dec (w.setCell ⟨g, i, none⟩ v) base gd lv tv d :=
  h.frame fun k e => Below.heap_setCell w ⟨g, i, none⟩ v k (fun e2 => by
    have e3 : k = g := e2
    subst e3
    rcases e with e | e | e
    · exact h1 e
    · exact h2 e
    · exact h3 e)
set_option maxHeartbeats 8000000 in
set_option maxRecDepth 100000 in
theorem read_part {w : World} {base g gd : Nat} {lv tv : Value} {t : Tal} {d : Dz} (h : Pt w base g gd lv tv t d) (hf : FitD d) (hw : d.whole = false) (hwr : d.wrong = 0) (hm : MX w) (hb2 : 2 ≤ base) {A : Nat → Prop} (va : Option Addr) (vc : Nat) (b : List UInt8) (hv : Bf w A (.slice va b.length vc) b) (hs : Shp (.slice va b.length vc)) (gA : ¬ A gd) (lA : ∀ k, lv.ownBlock = some k → ¬ A k) (tA : ∀ k, tv.ownBlock = some k → ¬ A k) (AL : ∀ k, A k → k < w.heap.size) (hl : b.length ≤ 70368744177664) (hg : t.got ≤ 9007199254740992) :
    Calls Tryd.prog 104 #[.pointer (some ⟨g, 0, none⟩), .slice va b.length vc] w fun e w' => ∃ ua uc lv' tv', e = .returned (.tuple #[.slice ua (dBytes d b).2.2.1.length uc, .int .i64 ((dBytes d b).2.1 : Int)]) ∧ Row w' w.heap.size 5 (.slice ua (dBytes d b).2.2.1.length uc) (bc (dBytes d b).2.2.1) ∧ Pt w' base g gd lv' tv' ⟨t.got + (dBytes d b).2.2.1.length, (dBytes d b).2.2.2.whole, (dBytes d b).1⟩ (dForget { (dBytes d b).2.2.2 with wrong := (dBytes d b).1 }) ∧ GK w w' g gd lv tv lv' tv' := by
  have HP := hide h
  have HFE := hide (feed_on h.dec hf hw hwr hm hb2 _ b hv hs gA lA tA AL hl)
  have c3 : w.cell? ⟨g, 3, none⟩ = some (.pointer (some ⟨gd, 0, none⟩)) := h.fr.c 3
  have hol := Nat.le_trans (bytes_out b d) (bytes_len b d)
  have hgl := h.fr.lt
  clear h hv hs
  generalize dBytes d b = R at HFE hol ⊢
  obtain ⟨en, n, o, dd⟩ := R
  dsimp only at HFE hol ⊢
  obtain ⟨S, hS⟩ : ∃ S, t.got + o.length = S := ⟨_, rfl⟩
  rw [hS]
  have hpl : (t.got : Int) + (o.length : Int) = (S : Int) := by omega
  have hSb : S ≤ 9077567998918656 := by omega
  clear hS
  go_enter Tryd.func104, Tryd.ntmps104
  go_wp2_with fail
  refine HFE.out.mono ?_
  rintro e W1 ⟨bv, lv', tv', rfl, hr, hd, hk⟩
  obtain ⟨ua, uc, rfl⟩ : ∃ a c, bv = .slice a o.length c := by
    obtain ⟨a, c, h, _⟩ := hr.shape
    rw [bc_len] at h
    exact ⟨a, c, h⟩
  have hblk : W1.heap[g]? = w.heap[g]? := hk.block g hgl HP.out.gd HP.out.gl HP.out.gt
  have hgl' : lv'.ownBlock ≠ some g := hk.la g hgl HP.out.gl
  have hgt' : tv'.ownBlock ≠ some g := hk.fa g hgl HP.out.gt
  have F1 : Hid (Fr W1 g 68 t [.pointer (some ⟨gd, 0, none⟩)]) := hide ⟨hblk.trans HP.out.fr.fr⟩
  have R1 := hide hr
  have D1 := hide hd
  have K1 := hide (GK.of_PK (g := g) hk)
  have HGD := hide HP.out.gd
  clear hr hd hk hblk c3 HFE
  go_upto_region 2 with fail
  have d0 : W1.cell? ⟨g, 0, none⟩ = some (.int .i64 (t.got : Int)) := F1.out.c 0
  have f0 := F1.out.f 0
  go_upto_region 3 with fail
  have F2 := hide (F1.out.set (t' := ⟨S, t.whole, t.wrong⟩) 0 (.int .i64 (S : Int)) rfl)
  have D2 := hide (D1.out.set_other HGD.out hgl' hgt' 0 (.int .i64 (S : Int)))
  have R2 := hide (R1.out.frame (W' := W1.setCell ⟨g, 0, none⟩ (.int .i64 (S : Int))) fun j e => Below.heap_setCell W1 ⟨g, 0, none⟩ _ j (fun e2 => by have := (R1.out.lt e).1; have e3 : j = g := e2; omega))
  have K2 := hide (K1.out.set 0 (.int .i64 (S : Int)))
  clear F1 D1 R1 K1 d0 f0
  generalize W1.setCell ⟨g, 0, none⟩ (.int .i64 (S : Int)) = W2 at F2 D2 R2 K2 ⊢
  have d1 : W2.cell? ⟨g, 1, none⟩ = some (.bool t.whole) := F2.out.c 1
  have f1 := F2.out.f 1
  have d2 : W2.cell? ⟨g, 2, none⟩ = some (.int .i64 (t.wrong : Int)) := F2.out.c 2
  have f2 := F2.out.f 2
  have F3 := hide (F2.out.set (t' := ⟨S, dd.whole, t.wrong⟩) 1 (.bool dd.whole) rfl)
  have f3 := F3.out.f 2
  have d3 : (W2.setCell ⟨g, 1, none⟩ (.bool dd.whole)).cell? ⟨g, 2, none⟩ = some (.int .i64 (t.wrong : Int)) := F3.out.c 2
  have F4 := hide (F3.out.set (t' := ⟨S, dd.whole, en⟩) 2 (.int .i64 (en : Int)) rfl)
  have D4 := hide ((D2.out.set_other HGD.out hgl' hgt' 1 (.bool dd.whole)).set_other HGD.out hgl' hgt' 2 (.int .i64 (en : Int)))
  have R4 := hide ((R2.out.frame (W' := W2.setCell ⟨g, 1, none⟩ (.bool dd.whole)) fun j e => Below.heap_setCell W2 ⟨g, 1, none⟩ _ j (fun e2 => by have := (R2.out.lt e).1; have e3 : j = g := e2; omega)).frame (W' := (W2.setCell ⟨g, 1, none⟩ (.bool dd.whole)).setCell ⟨g, 2, none⟩ (.int .i64 (en : Int))) fun j e => Below.heap_setCell _ ⟨g, 2, none⟩ _ j (fun e2 => by have := (R2.out.lt e).1; have e3 : j = g := e2; omega))
  have K4 := hide ((K2.out.set 1 (.bool dd.whole)).set 2 (.int .i64 (en : Int)))
  go_wp2_with fail
  go_ret2
  exact ⟨_, _, _, _, rfl, R4.out, ⟨F4.out, D4.out, HP.out.fb, HGD.out, hgl', hgt'⟩, K4.out⟩
end Go.Proofs.YtggeihahbgeneaaDoor
