/- YF2. -/
import Derived.Test.YtecjlcjaccijpaaGreatDoorYB2
import Derived.Test.YtecjlcjaccijpaaGreatDoorYF
import Derived.Lib.SlBytesConst
import Derived.Deep.RegionHeld3
namespace Go.Proofs.YtecjlcjaccijpaaGreatDoor
open Go.ChangeShapes Go.WideShapes Go.ChangeAt Go.RowKit
set_option linter.unusedVariables false
set_option maxHeartbeats 16000000
set_option maxRecDepth 100000
structure Pt (w : World) (base g gd : Nat) (lv tv : Value) (t : Tal) (d : Dz) : Prop where
 fr : Fr w g 196 t [.pointer (some ⟨gd, 0, none⟩)]
 dec : Dec w base gd lv tv d
 fb : base <= g
 gd : g ≠ gd
 gl : lv.ownBlock ≠ some g
 gt : tv.ownBlock ≠ some g
theorem Pt.below {w w' : World} {base g gd : Nat} {lv tv : Value} {t : Tal} {d : Dz} (h : Pt w base g gd lv tv t d) (b : Below w.heap.size w w') : Pt w' base g gd lv tv t d :=
 ⟨h.fr.below b, h.dec.below b, h.fb, h.gd, h.gl, h.gt⟩
structure GK (w w' : World) (g gd : Nat) (lv tv lv' tv' : Value) : Prop where
 os : w'.os = w.os
 tape : w'.tape = w.tape
 output : w'.output = w.output
 size : w.heap.size <= w'.heap.size
 block : ∀ k, k < w.heap.size -> k ≠ g -> k ≠ gd -> lv.ownBlock ≠ some k -> tv.ownBlock ≠ some k -> w'.heap[k]? = w.heap[k]?
 la : ∀ k, k < w.heap.size -> lv.ownBlock ≠ some k -> lv'.ownBlock ≠ some k
 fa : ∀ k, k < w.heap.size -> tv.ownBlock ≠ some k -> tv'.ownBlock ≠ some k
theorem GK.of_PK {w w' : World} {g gd : Nat} {lv tv lv' tv' : Value} (k : PK w w' gd lv tv lv' tv') : GK w w' g gd lv tv lv' tv' := ⟨k.os, k.tape, k.output, k.size, fun i hi _ h2 h3 h4 => k.block i hi h2 h3 h4, k.la, k.fa⟩
theorem GK.set {w w' : World} {g gd : Nat} {lv tv lv' tv' : Value} (k : GK w w' g gd lv tv lv' tv') (i : Nat) (v : Value) : GK w (w'.setCell ⟨g, i, none⟩ v) g gd lv tv lv' tv' :=
 ⟨k.os, k.tape, k.output, by simpa using k.size, fun j hj h1 h2 h3 h4 => (Below.heap_setCell w' ⟨g, i, none⟩ v j h1).trans (k.block j hj h1 h2 h3 h4), k.la, k.fa⟩
theorem GK.low {w w' : World} {base g gd : Nat} {lv tv lv' tv' : Value} {t : Tal} {d : Dz} (h : Pt w base g gd lv tv t d) (k : GK w w' g gd lv tv lv' tv') : Below base w w' :=
 ⟨k.os, k.tape, k.output, k.size, fun j hj => k.block j (by have := h.dec.lt; have := h.dec.gb; omega) (by have := h.fb; omega) (by have := h.dec.gb; omega) (fun e => by have := (h.dec.line.lt e).1; omega) (fun e => by have := (h.dec.trs.lt e).1; omega)⟩
theorem Dec.set_other {w : World} {base gd : Nat} {lv tv : Value} {d : Dz} (h : Dec w base gd lv tv d) {g : Nat} (h1 : g ≠ gd) (h2 : lv.ownBlock ≠ some g) (h3 : tv.ownBlock ≠ some g) (i : Nat) (v : Value) : Dec (w.setCell ⟨g, i, none⟩ v) base gd lv tv d :=
 h.frame fun k e => Below.heap_setCell w ⟨g, i, none⟩ v k (fun e2 => by
  have e3 : k = g := e2
  subst e3
  rcases e with e | e | e
  ·exact h1 e
  ·exact h2 e
  ·exact h3 e)
theorem read_part {w : World} {base g gd : Nat} {lv tv : Value} {t : Tal} {d : Dz} (h : Pt w base g gd lv tv t d) (hf : FitD d) (hw : d.whole = false) (hwr : d.wrong = 0) (hm : MX w) (hb2 : 3 <= base) {A : Nat -> Prop} (va : Option Addr) (vc : Nat) (b : List UInt8) (hv : Bf w A (.slice va b.length vc) b) (hs : Shp (.slice va b.length vc)) (gA : ¬ A gd) (lA : ∀ k, lv.ownBlock = some k -> ¬ A k) (tA : ∀ k, tv.ownBlock = some k -> ¬ A k) (AL : ∀ k, A k -> k < w.heap.size) (hl : b.length <= 70368744177664) (hg : t.got <= 9007199254740992) :
  Calls Tryz.prog 207 #[.pointer (some ⟨g, 0, none⟩), .slice va b.length vc] w fun e w' => ∃ ua uc lv' tv', e = .returned (.tuple #[.slice ua (dBytes d b).2.2.1.length uc, .int .i64 ((dBytes d b).2.1 : Int)]) /\ Row w' w.heap.size 5 (.slice ua (dBytes d b).2.2.1.length uc) (bc (dBytes d b).2.2.1) /\ Pt w' base g gd lv' tv' ⟨t.got + (dBytes d b).2.2.1.length, (dBytes d b).2.2.2.whole, (dBytes d b).1⟩ (dForget { (dBytes d b).2.2.2 with wrong := (dBytes d b).1 }) /\ GK w w' g gd lv tv lv' tv' := by
 have HP := hide h
 have HFE := hide (feed_on h.dec hf hw hwr hm hb2 _ b hv hs gA lA tA AL hl)
 have c3 : w.cell? ⟨g, 3, none⟩ = some (.pointer (some ⟨gd, 0, none⟩)) := h.fr.c 3
 have hol := Nat.le_trans (bytes_out b d) (bytes_len b d)
 have hgl := h.fr.lt
 clear h hv hs
 generalize dBytes d b = R at HFE hol |-
 obtain ⟨en, n, o, dd⟩ := R
 dsimp only at HFE hol |-
 obtain ⟨S, hS⟩ : ∃ S, t.got + o.length = S := ⟨_, rfl⟩
 rw [hS]
 have hpl : (t.got : Int) + (o.length : Int) = (S : Int) := by omega
 have hSb : S <= 9077567998918656 := by omega
 clear hS
 go_enter Tryz.func207, Tryz.ntmps207
 go_wp2_with fail
 refine HFE.out.mono ?_
 rintro e W1 ⟨bv, lv', tv', rfl, hr, hd, hk⟩
 obtain ⟨ua, uc, rfl⟩ : ∃ a c, bv = .slice a o.length c := by
  obtain ⟨a, c, h, _⟩ := hr.shape
  rw [bc_len] at h
  exact ⟨a, c, h⟩
 have hblk : W1.heap[g]? = w.heap[g]? := hk.block g hgl HP.out.gd HP.out.gl HP.out.gt
 have hgl' : lv'.ownBlock ≠ some g := hk.la g hgl HP.out.gl
 have hgt' : tv'.ownBlock ≠ some g := hk.fa g hgl HP.out.gt
 have F1 : Hid (Fr W1 g 196 t [.pointer (some ⟨gd, 0, none⟩)]) := hide ⟨hblk.trans HP.out.fr.fr⟩
 have R1 := hide hr
 have D1 := hide hd
 have K1 := hide (GK.of_PK (g := g) hk)
 have HGD := hide HP.out.gd
 clear hr hd hk hblk c3 HFE
 go_upto_region 2 with fail
 have d0 : W1.cell? ⟨g, 0, none⟩ = some (.int .i64 (t.got : Int)) := F1.out.c 0
 have f0 := F1.out.f 0
 go_upto_region 3 with fail
 have F2 := hide (F1.out.set (t' := ⟨S, t.whole, t.wrong⟩) 0 (.int .i64 (S : Int)) rfl)
 have D2 := hide (D1.out.set_other HGD.out hgl' hgt' 0 (.int .i64 (S : Int)))
 have R2 := hide (R1.out.frame (W' := W1.setCell ⟨g, 0, none⟩ (.int .i64 (S : Int))) fun j e => Below.heap_setCell W1 ⟨g, 0, none⟩ _ j (fun e2 => by have := (R1.out.lt e).1; have e3 : j = g := e2; omega))
 have K2 := hide (K1.out.set 0 (.int .i64 (S : Int)))
 clear F1 D1 R1 K1 d0 f0
 generalize W1.setCell ⟨g, 0, none⟩ (.int .i64 (S : Int)) = W2 at F2 D2 R2 K2 |-
 have d1 : W2.cell? ⟨g, 1, none⟩ = some (.bool t.whole) := F2.out.c 1
 have f1 := F2.out.f 1
 have d2 : W2.cell? ⟨g, 2, none⟩ = some (.int .i64 (t.wrong : Int)) := F2.out.c 2
 have f2 := F2.out.f 2
 have F3 := hide (F2.out.set (t' := ⟨S, dd.whole, t.wrong⟩) 1 (.bool dd.whole) rfl)
 have f3 := F3.out.f 2
 have d3 : (W2.setCell ⟨g, 1, none⟩ (.bool dd.whole)).cell? ⟨g, 2, none⟩ = some (.int .i64 (t.wrong : Int)) := F3.out.c 2
 have F4 := hide (F3.out.set (t' := ⟨S, dd.whole, en⟩) 2 (.int .i64 (en : Int)) rfl)
 have D4 := hide ((D2.out.set_other HGD.out hgl' hgt' 1 (.bool dd.whole)).set_other HGD.out hgl' hgt' 2 (.int .i64 (en : Int)))
 have R4 := hide ((R2.out.frame (W' := W2.setCell ⟨g, 1, none⟩ (.bool dd.whole)) fun j e => Below.heap_setCell W2 ⟨g, 1, none⟩ _ j (fun e2 => by have := (R2.out.lt e).1; have e3 : j = g := e2; omega)).frame (W' := (W2.setCell ⟨g, 1, none⟩ (.bool dd.whole)).setCell ⟨g, 2, none⟩ (.int .i64 (en : Int))) fun j e => Below.heap_setCell _ ⟨g, 2, none⟩ _ j (fun e2 => by have := (R2.out.lt e).1; have e3 : j = g := e2; omega))
 have K4 := hide ((K2.out.set 1 (.bool dd.whole)).set 2 (.int .i64 (en : Int)))
 go_wp2_with fail
 go_ret2
 exact ⟨_, _, _, _, rfl, R4.out, ⟨F4.out, D4.out, HP.out.fb, HGD.out, hgl', hgt'⟩, K4.out⟩
def ptX (gd : Nat) : List Value := [.pointer (some ⟨gd, 0, none⟩)]
structure PRd (w : World) (base gr g gd : Nat) (lv tv : Value) (t : Tal) (d : Dz) : Prop where
 rdr : Rdr w base gr g 194 196 t (ptX gd)
 pt : Pt w base g gd lv tv t d
 rd : gr ≠ gd
 rl : lv.ownBlock ≠ some gr
 rt : tv.ownBlock ≠ some gr
theorem PRd.below {w w' : World} {base gr g gd : Nat} {lv tv : Value} {t : Tal} {d : Dz} (h : PRd w base gr g gd lv tv t d) (b : Below w.heap.size w w') : PRd w' base gr g gd lv tv t d := ⟨h.rdr.below b, h.pt.below b, h.rd, h.rl, h.rt⟩
theorem Dec.keepR {w W : World} {base gd gr g : Nat} {lv tv : Value} {d : Dz} (h : Dec w base gd lv tv d) (k : RK w W gr g) (h1 : gd ≠ gr) (h2 : gd ≠ g) (h3 : lv.ownBlock ≠ some gr) (h4 : lv.ownBlock ≠ some g) (h5 : tv.ownBlock ≠ some gr) (h6 : tv.ownBlock ≠ some g) : Dec W base gd lv tv d :=
 h.frame fun i e => by
  rcases e with rfl | e | e
  ·exact k.block _ h.lt h1 h2
  ·exact k.block i (h.line.lt e).2 (fun e2 => h3 (by rw [e, e2])) (fun e2 => h4 (by rw [e, e2]))
  ·exact k.block i (h.trs.lt e).2 (fun e2 => h5 (by rw [e, e2])) (fun e2 => h6 (by rw [e, e2]))
theorem framed_part (len : Int) (x : Bool) (most : Nat) (w : World) (hm : most <= 9007199254740992) : Calls Tryz.prog 108 #[frV 3 len x, .int .i64 (most : Int)] w fun e w' => ∃ g gd, e = .returned (.iface 194 (.pointer (some ⟨g, 0, none⟩))) /\ w.heap.size <= g /\ w.heap.size <= gd /\ Pt w' w.heap.size g gd (.slice none 0 0) (.slice none 0 0) ⟨0, false, 0⟩ (dNew most) /\ Below w.heap.size w w' := by
 unfold frV
 go_enter Tryz.func108, Tryz.ntmps108
 go_upto_region 1 with fail
 have BA := hide ((Below.refl w.heap.size w).alloc (Nat.le_refl _) (.cells #[.int .i64 3, .int .i64 len, .bool x] 29))
 have HB := hide (hp_new w (.cells #[.int .i64 3, .int .i64 len, .bool x] 29))
 generalize w.alloc (.cells #[.int .i64 3, .int .i64 len, .bool x] 29) = W0 at BA HB |-
 have c0 : W0.cell? ⟨w.heap.size, 0, none⟩ = some (.int .i64 3) := cell_at HB.out 0
 have HN := hide (new_any most W0 hm)
 go_wp2_with fail
 refine HN.out.mono ?_
 rintro e W1 ⟨rfl, hd, b1⟩
 have D1 := hide hd
 have B1 := hide (BA.out.trans (b1.mono BA.out.size))
 have s0 := BA.out.size
 have s1 := b1.size
 have l1 := hd.lt
 clear hd b1 HN c0
 go_wp2_with fail
 have BN := hide ((Below.refl W1.heap.size W1).alloc (Nat.le_refl _) (.cells #[.int .i64 0, .bool false, .int .i64 0, .pointer (some ⟨W0.heap.size, 0, none⟩)] 196))
 have HP := hide (hp_new W1 (.cells #[.int .i64 0, .bool false, .int .i64 0, .pointer (some ⟨W0.heap.size, 0, none⟩)] 196))
 have D2 := hide (D1.out.below BN.out)
 have B2 := hide (B1.out.trans (BN.out.mono B1.out.size))
 go_ret
 exact ⟨W1.heap.size, W0.heap.size, rfl, by omega, by omega, ⟨⟨HP.out⟩, ⟨D2.out.blk, Row.nil _ _ _, FRow.nil _ _, by omega, D2.out.gl, D2.out.gf, D2.out.lf⟩, by omega, by omega, by simp [Value.ownBlock], by simp [Value.ownBlock]⟩, B2.out⟩
theorem new_part (x : Bool) (most : Nat) (w : World) (hm : most <= 9007199254740992) :
  Calls Tryz.prog 88 #[frV 3 0 x, .int .i64 (most : Int)] w fun e w' => ∃ gr g gd, e = .returned (.tuple #[.pointer (some ⟨gr, 0, none⟩), .int .i64 0]) /\ w.heap.size <= gd /\ PRd w' w.heap.size gr g gd (.slice none 0 0) (.slice none 0 0) ⟨0, false, 0⟩ (dNew most) /\ Below w.heap.size w w' := by
 have HF := hide (fun W => framed_part 0 x most W hm)
 have HI := hide (fun W => isRight_any 3 0 x W)
 rw [show isR 3 0 = true from rfl] at HI
 have t1 : ¬ (most : Int) < 0 := by omega
 have t2 : ¬ (9007199254740992 : Int) < (most : Int) := by omega
 unfold frV at HF HI |-
 go_enter Tryz.func88, Tryz.ntmps88
 have BA := hide ((Below.refl w.heap.size w).alloc (Nat.le_refl _) (.cells #[.int .i64 3, .int .i64 0, .bool x] 29))
 have HB := hide (hp_new w (.cells #[.int .i64 3, .int .i64 0, .bool x] 29))
 have HLT := lt_heap' HB.out
 go_upto_region 1 with fail
 generalize w.alloc (.cells #[.int .i64 3, .int .i64 0, .bool x] 29) = W0 at BA HB HLT |-
 have c0 : W0.cell? ⟨w.heap.size, 0, none⟩ = some (.int .i64 3) := cell_at HB.out 0
 have c1 : W0.cell? ⟨w.heap.size, 1, none⟩ = some (.int .i64 0) := cell_at HB.out 1
 have c2 : W0.cell? ⟨w.heap.size, 2, none⟩ = some (.bool x) := cell_at HB.out 2
 go_wp2_with fail
 refine (HI.out W0).mono ?_
 rintro e W1 ⟨rfl, b1⟩
 have B1 := hide (BA.out.trans (b1.mono BA.out.size))
 have HB1 := hide ((b1.block w.heap.size HLT).trans HB.out)
 clear c0 c1 c2 b1 HI
 have c0 : W1.cell? ⟨w.heap.size, 0, none⟩ = some (.int .i64 3) := cell_at HB1.out 0
 have c1 : W1.cell? ⟨w.heap.size, 1, none⟩ = some (.int .i64 0) := cell_at HB1.out 1
 have c2 : W1.cell? ⟨w.heap.size, 2, none⟩ = some (.bool x) := cell_at HB1.out 2
 go_wp2_with fail
 refine (HF.out W1).mono ?_
 rintro e W2 ⟨g, gd, rfl, hg, hgd, hpt, b2⟩
 have B2 := hide (B1.out.trans (b2.mono B1.out.size))
 have HG := hide (And.intro hg hgd)
 have HPT := hide hpt
 have hgl := hpt.fr.lt
 have hgdl := hpt.dec.lt
 clear c0 c1 c2 b2 hg hgd hpt HF
 go_upto_region 6 with fail
 have BN := hide ((Below.refl W2.heap.size W2).alloc (Nat.le_refl _) (.cells #[.iface 194 (.pointer (some ⟨g, 0, none⟩))] 90))
 have HN := hide (hp_new W2 (.cells #[.iface 194 (.pointer (some ⟨g, 0, none⟩))] 90))
 have hww : w.heap.size <= W1.heap.size := B1.out.size
 have hw2 : w.heap.size <= W2.heap.size := B2.out.size
 have PT3 := hide (HPT.out.below BN.out)
 have HRD : Hid (Rdr (W2.alloc (.cells #[.iface 194 (.pointer (some ⟨g, 0, none⟩))] 90)) w.heap.size W2.heap.size g 194 196 ⟨0, false, 0⟩ (ptX gd)) := hide ⟨HN.out, PT3.out.fr.fr, by omega, hw2, by have := HG.out.1; omega⟩
 have B3 := hide (B2.out.trans (BN.out.mono B2.out.size))
 generalize W2.alloc (.cells #[.iface 194 (.pointer (some ⟨g, 0, none⟩))] 90) = W3 at BN HN HRD B3 PT3 |-
 go_wp2_with fail
 refine (settle_any HRD.out (.inr (.inl rfl)) B3.out.size).mono ?_
 rintro e W4 ⟨rfl, hs⟩
 have hr4 := hs.2.1 rfl
 have B4 := hide (B3.out.trans (hs.2.2.1.low hw2 (by have := HG.out.1; omega) B3.out.size))
 have P4 : Hid (PRd W4 w.heap.size W2.heap.size g gd (.slice none 0 0) (.slice none 0 0) ⟨0, false, 0⟩ (dNew most)) := hide ⟨hr4, ⟨⟨hr4.fr⟩, (by
  have hd := PT3.out.dec.keepR hs.2.2.1 (by omega) (fun e => PT3.out.gd e.symm) (by simp [Value.ownBlock]) (by simp [Value.ownBlock]) (by simp [Value.ownBlock]) (by simp [Value.ownBlock])
  exact ⟨hd.blk, Row.nil _ _ _, FRow.nil _ _, by have := HG.out.2; omega, hd.gl, hd.gf, hd.lf⟩), by have := HG.out.1; omega, PT3.out.gd, by simp [Value.ownBlock], by simp [Value.ownBlock]⟩, by omega, by simp [Value.ownBlock], by simp [Value.ownBlock]⟩
 clear hs hr4
 go_wp2
 go_ret2
 exact ⟨W2.heap.size, g, gd, rfl, by have := HG.out.2; omega, P4.out, B4.out⟩
theorem feed_part {w : World} {base gr g gd : Nat} {lv tv : Value} {t : Tal} {d : Dz} (h : PRd w base gr g gd lv tv t d) (hf : FitD d) (hw : d.whole = false) (hwr : d.wrong = 0) (hm : MX w) (hb2 : 3 <= base) {A : Nat -> Prop} (va : Option Addr) (vc : Nat) (b : List UInt8) (hv : Bf w A (.slice va b.length vc) b) (hs : Shp (.slice va b.length vc)) (gA : ¬ A gd) (lA : ∀ k, lv.ownBlock = some k -> ¬ A k) (tA : ∀ k, tv.ownBlock = some k -> ¬ A k) (AL : ∀ k, A k -> k < w.heap.size) (hl : b.length <= 70368744177664) (hg : t.got <= 9007199254740992) :
  Calls Tryz.prog 109 #[.pointer (some ⟨gr, 0, none⟩), .slice va b.length vc] w fun e w' => ∃ ua uc lv' tv', e = .returned (.tuple #[.slice ua (dBytes d b).2.2.1.length uc, .int .i64 ((dBytes d b).2.1 : Int), .bool (dBytes d b).2.2.2.whole, .int .i64 ((dBytes d b).1 : Int)]) /\ Row w' w.heap.size 5 (.slice ua (dBytes d b).2.2.1.length uc) (bc (dBytes d b).2.2.1) /\ (overT ⟨t.got + (dBytes d b).2.2.1.length, (dBytes d b).2.2.2.whole, (dBytes d b).1⟩ = true -> ∃ g', w.heap.size <= g' /\ Rdr w' base gr g' 123 125 ⟨t.got + (dBytes d b).2.2.1.length, (dBytes d b).2.2.2.whole, (dBytes d b).1⟩ []) /\ (overT ⟨t.got + (dBytes d b).2.2.1.length, (dBytes d b).2.2.2.whole, (dBytes d b).1⟩ = false -> PRd w' base gr g gd lv' tv' ⟨t.got + (dBytes d b).2.2.1.length, (dBytes d b).2.2.2.whole, (dBytes d b).1⟩ (dForget { (dBytes d b).2.2.2 with wrong := (dBytes d b).1 })) /\ Below base w w' := by
 have HP := hide h
 have HN := hide (isNone_any h.rdr)
 have HRD := hide (read_part h.pt hf hw hwr hm hb2 va vc b hv hs gA lA tA AL hl hg)
 have c0 := h.rdr.c0
 have hgrl := lt_heap' h.rdr.rd
 have hgl := h.pt.fr.lt
 have hgdl := h.pt.dec.lt
 have hbb : base <= w.heap.size := by have := h.pt.dec.gb; omega
 clear h hv hs
 generalize dBytes d b = R at HRD |-
 obtain ⟨en, n, o, dd⟩ := R
 dsimp only at HRD |-
 generalize hd2 : dForget { dd with wrong := en } = d2 at HRD |-
 clear hd2
 obtain ⟨tt, htt⟩ : ∃ x : Tal, (⟨t.got + o.length, dd.whole, en⟩ : Tal) = x := ⟨_, rfl⟩
 rw [htt] at HRD |-
 have e1 : dd.whole = tt.whole := by rw [<- htt]
 have e2 : en = tt.wrong := by rw [<- htt]
 rw [e1, e2]
 clear e1 e2 htt
 go_enter Tryz.func109, Tryz.ntmps109
 go_wp2_with fail
 refine HN.out.mono ?_
 rintro e w1 ⟨rfl, rfl⟩
 clear HN
 go_wp2_with fail
 refine HRD.out.mono ?_
 rintro e W1 ⟨ua, uc, lv', tv', rfl, q1, q2, q3⟩
 have HR1 : Hid (Rdr W1 base gr g 194 196 tt (ptX gd)) := hide ⟨(q3.block gr hgrl HP.out.rdr.ne HP.out.rd HP.out.rl HP.out.rt).trans HP.out.rdr.rd, q2.fr.fr, HP.out.rdr.ne, HP.out.rdr.rb, HP.out.rdr.fb⟩
 have hw1 := q3.size
 have R1 := hide q1
 have P1 := hide q2
 have B1 := hide (q3.low HP.out.pt)
 have hrl' : lv'.ownBlock ≠ some gr := q3.la gr hgrl HP.out.rl
 have hrt' : tv'.ownBlock ≠ some gr := q3.fa gr hgrl HP.out.rt
 clear q1 q2 q3 HRD c0
 go_wp2_with fail
 refine (settle_any HR1.out (.inr (.inl rfl)) (by omega)).mono ?_
 rintro e W2 ⟨rfl, hs⟩
 have HS := hide hs
 have R2 : Hid (Row W2 w.heap.size 5 (.slice ua o.length uc) (bc o)) := hide (R1.out.frame fun j e => hs.2.2.1.block j (R1.out.lt e).2 (by have := (R1.out.lt e).1; omega) (by have := (R1.out.lt e).1; omega))
 have B2 := hide (B1.out.trans (hs.2.2.1.low (base := base) HP.out.rdr.rb HP.out.rdr.fb (by omega)))
 have DK2 := hide (P1.out.dec.keepR hs.2.2.1 (fun e => HP.out.rd e.symm) (fun e => P1.out.gd e.symm) hrl' P1.out.gl hrt' P1.out.gt)
 have FPO : Hid (overT tt = true -> ∃ g', w.heap.size <= g' /\ Rdr W2 base gr g' 123 125 tt []) := hide (fun h => (by obtain ⟨g', h1, h2⟩ := hs.1 h; exact ⟨g', Nat.le_trans hw1 h1, h2⟩))
 have FPN : Hid (overT tt = false -> PRd W2 base gr g gd lv' tv' tt d2) := hide (fun h => ⟨hs.2.1 h, ⟨⟨(hs.2.1 h).fr⟩, DK2.out, P1.out.fb, P1.out.gd, P1.out.gl, P1.out.gt⟩, HP.out.rd, hrl', hrt'⟩)
 clear hs R1 HR1
 cases ho : overT tt with
 | true =>
  obtain ⟨g2, _, hr2⟩ := HS.out.1 ho
  have HT := hide (told_any g2 W2)
  have c := hr2.c0
  have c1 := hr2.t1
  have c2 := hr2.t2
  clear hr2 ho
  go_wp2_with fail
  refine HT.out.mono ?_
  rintro e w3 ⟨rfl, rfl⟩
  go_wp2_with fail
  go_quiet (fail)
  go_wp2
  exact bodyPost_ret (v := .tuple #[.slice ua o.length uc, .int .i64 (n : Int), .bool tt.whole, .int .i64 (tt.wrong : Int)]) (by simp [results, Tryz.results109, go_sem]) rfl ⟨_, _, _, _, rfl, R2.out.below (below_drewN _ _), fun h => (by obtain ⟨g', h1, h2⟩ := FPO.out h; exact ⟨g', h1, h2.below (below_drewN _ _)⟩), fun h => (FPN.out h).below (below_drewN _ _), B2.out.trans ((below_drewN _ _).mono (by have := B2.out.size; omega))⟩
 | false =>
  have hr2 := HS.out.2.1 ho
  obtain ⟨g2, hg2⟩ : ∃ x, g = x := ⟨_, rfl⟩
  rw [hg2] at hr2
  have HT := hide (told_any g2 W2)
  have c := hr2.c0
  have c1 := hr2.t1
  have c2 := hr2.t2
  clear hr2 ho hg2
  go_wp2_with fail
  refine HT.out.mono ?_
  rintro e w3 ⟨rfl, rfl⟩
  go_wp2_with fail
  go_quiet (fail)
  go_wp2
  exact bodyPost_ret (v := .tuple #[.slice ua o.length uc, .int .i64 (n : Int), .bool tt.whole, .int .i64 (tt.wrong : Int)]) (by simp [results, Tryz.results109, go_sem]) rfl ⟨_, _, _, _, rfl, R2.out.below (below_drewN _ _), fun h => (by obtain ⟨g', h1, h2⟩ := FPO.out h; exact ⟨g', h1, h2.below (below_drewN _ _)⟩), fun h => (FPN.out h).below (below_drewN _ _), B2.out.trans ((below_drewN _ _).mono (by have := B2.out.size; omega))⟩
theorem Bs.text {w : World} {base : Nat} {v : Value} {l : List UInt8} (h : Bs w base v l) : (convert 24 9 v).run Tryz.prog w = .ok (.string ⟨l.toArray⟩) w := by
 obtain ⟨a, c, rfl, _, hx⟩ := h
 cases l with
 | nil =>
  cases a with
  | none => exact run_convert_bytes_nil w 24 5 Tryz.underlying24 Tryz.underlying5 0 c 9 Tryz.underlying9
  | some ad => exact run_convert_bytes_back w 24 9 5 ad c [] Tryz.underlying24 Tryz.underlying5 Tryz.underlying9 (fun j hj => by simp at hj)
 | cons y r =>
  obtain ⟨g, o, rfl, _, _, _⟩ := hx 0 (by simp)
  refine run_convert_bytes_back w 24 9 5 ⟨g, o, none⟩ c (y :: r) Tryz.underlying24 Tryz.underlying5 Tryz.underlying9 (fun j hj => ?_)
  obtain ⟨g', o', h1, _, _, h4⟩ := hx j hj
  simp only [Option.some.injEq, Addr.mk.injEq] at h1
  obtain ⟨rfl, rfl, _⟩ := h1
  have e : (⟨g, o, none⟩ : Addr).add j = ⟨g, o + j, none⟩ := by unfold Addr.add; split <;> simp_all
  rw [e]
  exact h4
end Go.Proofs.YtecjlcjaccijpaaGreatDoor
