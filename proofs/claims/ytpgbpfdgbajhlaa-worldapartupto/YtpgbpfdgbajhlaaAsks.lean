/- One step of a script, done with a world and with the document's own. -/
import Derived.Test.YtpgbpfdgbajhlaaRefAny
import Derived.Deep.RegionHeld3
namespace Go.Proofs.Ytpgbpfdgbajhlaa
open Go.ChangeShapes Go.WideShapes Go.ChangeAt Go.RowKit

/-- What was there at the beginning, and a block that has come since and that nothing writes. -/
structure Bk where
  w : World
  z : Nat
  o : Obj
/-- A world and one of the document's, side by side, behind all that was there at the beginning. -/
structure Two (W0 : Bk) (W : World) (c d : Nat) (S : List Cn) (dr : List Int) (S2 : List Cn) (dr2 : List Int) (ow ox : Nat → Option Tag) : Prop where
  wd : Wd W c S dr ow
  xd : Xd W d S2 dr2 ox
  dis : ∀ b t, ox b = some t → ow b = none
  old : Fr (fun i => W0.w.heap.size ≤ i) W0.w W
  noW : ∀ b, b < W0.w.heap.size → ow b = none
  noX : ∀ b, b < W0.w.heap.size → ox b = none
  kz : W.heap[W0.z]? = some W0.o
  zw : ow W0.z = none
  zx : ox W0.z = none

section
variable {W0 : Bk} {W W1 : World} {c d : Nat} {S S' S2 S2' : List Cn} {dr dr' dr2 dr2' : List Int} {ow ow' ox ox' : Nat → Option Tag}

theorem Two.w (h : Two W0 W c d S dr S2 dr2 ow ox) (hw : Wd W1 c S' dr' ow') (hk : Kp ow ow' W W1) : Two W0 W1 c d S' dr' S2 dr2 ow' ox :=
  ⟨hw, h.xd.frame hk.fr.size (fun b t e => hk.fr.block b (h.xd.low b t e) (fun e2 => e2 (h.dis b t e))), fun b t e => hk.no b (h.xd.low b t e) (h.dis b t e),
    h.old.trans hk.fr (fun b hb e => absurd (h.noW b hb) e), fun b hb => hk.no b (Nat.lt_of_lt_of_le hb h.old.size) (h.noW b hb), h.noX, hk.fr.hd (fun e => e h.zw) h.kz, hk.no _ (Array.getElem?_eq_some_iff.1 h.kz).1 h.zw, h.zx⟩
theorem Two.x (h : Two W0 W c d S dr S2 dr2 ow ox) (hx : Xd W1 d S2' dr2' ox') (hk : Kp ox ox' W W1) : Two W0 W1 c d S dr S2' dr2' ow ox' := by
  have hno : ∀ b t, ow b = some t → ox b = none := fun b t e => by
    cases ho : ox b with
    | none => rfl
    | some u => rw [h.dis b u ho] at e; cases e
  refine ⟨h.wd.frame hk.fr.size (fun b t e => hk.fr.block b (h.wd.low b t e) (fun e2 => e2 (hno b t e))), hx, fun b t e => ?_, h.old.trans hk.fr (fun b hb e => absurd (h.noX b hb) e), h.noW, fun b hb => hk.no b (Nat.lt_of_lt_of_le hb h.old.size) (h.noX b hb), hk.fr.hd (fun e => e h.zx) h.kz, h.zw, hk.no _ (Array.getElem?_eq_some_iff.1 h.kz).1 h.zx⟩
  cases ho : ow b with
  | none => rfl
  | some u => rw [hk.no b (h.wd.low b u ho) (hno b u ho)] at e; cases e
theorem Two.fr (h : Two W0 W c d S dr S2 dr2 ow ox) (F : Fr (fun _ => False) W W1) : Two W0 W1 c d S dr S2 dr2 ow ox :=
  ⟨h.wd.frame F.size (fun b t e => F.block b (h.wd.low b t e) (fun e => e)), h.xd.frame F.size (fun b t e => F.block b (h.xd.low b t e) (fun e => e)), h.dis, h.old.trans F (fun _ _ e => e.elim), h.noW, h.noX, F.hd (fun e => e) h.kz, h.zw, h.zx⟩
theorem Two.sl (h : Two W0 W c d S dr S2 dr2 ow ox) {v : Value} {X : List Int} (hX : Sl W0.w .u8 v X) : Sl W .u8 v X := hX.keep (fun b hb _ => h.old.block b hb (by omega))

def AskPost (W0 : Bk) (c d : Nat) (S' : List Cn) (dr' : List Int) (S2' : List Cn) (dr2' : List Int) (P : Prop) (e : Ending) (W' : World) : Prop :=
  ∃ b, e = .returned (.bool b) ∧ (P → b = true) ∧ ∃ ow' ox', Two W0 W' c d S' dr' S2' dr2' ow' ox'
theorem askPost {S' S2' : List Cn} {dr' dr2' : List Int} {P : Prop} {b : Bool} (hb : P → b = true) (h : Two W0 W1 c d S' dr' S2' dr2' ow' ox') : AskPost W0 c d S' dr' S2' dr2' P (.returned (.bool b)) W1 := ⟨b, rfl, hb, ow', ox', h⟩

set_option maxRecDepth 100000 in
set_option maxHeartbeats 4000000 in
theorem asks0 (T : Two W0 W c d S dr S2 dr2 ow ox) (hS2 : SOk S2 dr2) (k n : Int) (a : Option Addr) (cap : Nat) (X : List Int) (hk2 : k ≤ 9223372036854775807) (hs : S.length < 70368744177664) (hs2 : S2.length ≤ 1048576) :
    Calls Try.prog 9 #[.pointer (some ⟨c, 0, none⟩), .pointer (some ⟨d, 0, none⟩), .agg #[.int .i64 0, .int .i64 k, .int .i64 n, .slice a X.length cap]] W (AskPost W0 c d (sOpen S k).2 dr (sOpen S2 k).2 dr2 (S2 = S ∧ dr2 = dr)) := by
  have T0 := (T.fr (Fr.alloc (fun _ => False) W (.cells #[.int .i64 0, .int .i64 k, .int .i64 n, .slice a X.length cap] 32))).fr (Fr.drew (fun _ => False) _)
  have HW : Hid (Calls Try.prog 18 #[.pointer (some ⟨c, 0, none⟩), .int .i64 k] (W.alloc (.cells #[.int .i64 0, .int .i64 k, .int .i64 n, .slice a X.length cap] 32)).drew fun e V' => e = .returned (.int .i64 (sOpen S k).1) ∧ ∃ ow', Two W0 V' c d (sOpen S k).2 dr S2 dr2 ow' ox ∧ Fr (fun b => ow b ≠ none) (W.alloc (.cells #[.int .i64 0, .int .i64 k, .int .i64 n, .slice a X.length cap] 32)).drew V') := hide ((any_open T0.wd hk2 hs).mono (fun e V' ⟨he, ow', h1, h2⟩ => ⟨he, ow', T0.w h1 h2, h2.fr⟩))
  have HX : Hid (∀ V ow' S' dr', Two W0 V c d S' dr' S2 dr2 ow' ox → Calls Try.prog 26 #[.pointer (some ⟨d, 0, none⟩), .int .i64 k] V fun e V' => e = .returned (.int .i64 (sOpen S2 k).1) ∧ ∃ ox', Two W0 V' c d S' dr' (sOpen S2 k).2 dr2 ow' ox' ∧ Fr (fun b => ox b ≠ none) V V') := hide (fun V ow' S' dr' h => (rany_open h.xd hS2 hs2).mono (fun e V' ⟨he, ox', h1, h2⟩ => ⟨he, ox', h.x h1 h2, h2.fr⟩))
  have HP : Hid ((S2 = S ∧ dr2 = dr) → (sOpen S k).1 = (sOpen S2 k).1) := hide (fun ⟨e1, e2⟩ => by rw [e1])
  have hh : (W.alloc (.cells #[.int .i64 0, .int .i64 k, .int .i64 n, .slice a X.length cap] 32)).drew.heap[W.heap.size]? = some (.cells #[.int .i64 0, .int .i64 k, .int .i64 n, .slice a X.length cap] 32 (0, 0)) := (MapKept.heap_alloc W _).1
  have hsn := T.wd.fresh (Nat.le_refl W.heap.size)
  obtain ⟨r1, hr1⟩ : ∃ r, r = (sOpen S k).1 := ⟨_, rfl⟩
  obtain ⟨r2, hr2⟩ : ∃ r, r = (sOpen S2 k).1 := ⟨_, rfl⟩
  rw [← hr1] at HW HP
  rw [← hr2] at HX HP
  have HB : Hid (∀ V', Fr (fun b => ow b ≠ none) (W.alloc (.cells #[.int .i64 0, .int .i64 k, .int .i64 n, .slice a X.length cap] 32)).drew V' → V'.heap[W.heap.size]? = some (.cells #[.int .i64 0, .int .i64 k, .int .i64 n, .slice a X.length cap] 32 (0, 0))) := hide (fun V' F => F.hd (fun e => e hsn) hh)
  have hxn : ox W.heap.size = none := by
    cases ho : ox W.heap.size with
    | none => rfl
    | some t => exact absurd (T.xd.low _ t ho) (Nat.lt_irrefl _)
  clear hr1 hr2 T hS2 T0 hh hsn
  go_enter Try.func9, Try.ntmps9
  go_wp2_with fail
  go_region_held3 (fun w' => w'.cell? ⟨W.heap.size, 1, none⟩ = some (.int .i64 k) ∧ w'.cell? ⟨W.heap.size, 2, none⟩ = some (.int .i64 n) ∧ w'.cell? ⟨W.heap.size, 3, none⟩ = some (.slice a X.length cap)) (go_keep) (first
    | (go_at_call 18; refine HW.out.mono ?_
       rintro e V ⟨rfl, ow1, T1, F1⟩
       have hbV := HB.out V F1
       have s1 : V.cell? ⟨W.heap.size, 1, none⟩ = some (.int .i64 k) := by rw [cell_of hbV]; rfl
       have s2 : V.cell? ⟨W.heap.size, 2, none⟩ = some (.int .i64 n) := by rw [cell_of hbV]; rfl
       have s3 : V.cell? ⟨W.heap.size, 3, none⟩ = some (.slice a X.length cap) := by rw [cell_of hbV]; rfl
       clear F1)
    | (go_at_call 26; refine (HX.out _ _ _ _ T1).mono ?_
       rintro e V2 ⟨rfl, ox1, T2, F2⟩
       have hb2 := F2.hd (fun e => e hxn) hbV
       have u1 : V2.cell? ⟨W.heap.size, 1, none⟩ = some (.int .i64 k) := by rw [cell_of hb2]; rfl
       have u2 : V2.cell? ⟨W.heap.size, 2, none⟩ = some (.int .i64 n) := by rw [cell_of hb2]; rfl
       have u3 : V2.cell? ⟨W.heap.size, 3, none⟩ = some (.slice a X.length cap) := by rw [cell_of hb2]; rfl
       clear hb2 F2))
  all_goals go_wp2_with fail
  all_goals go_ret
  all_goals exact askPost (fun h => by rw [HP.out h]; simp) T2

set_option maxRecDepth 100000 in
set_option maxHeartbeats 4000000 in
theorem asks1 (T : Two W0 W c d S dr S2 dr2 ow ox) (hS2 : SOk S2 dr2) (k n : Int) (a : Option Addr) (cap : Nat) (X : List Int) (hk : (Lit.int .i64 k).wf = true) :
    Calls Try.prog 9 #[.pointer (some ⟨c, 0, none⟩), .pointer (some ⟨d, 0, none⟩), .agg #[.int .i64 1, .int .i64 k, .int .i64 n, .slice a X.length cap]] W (AskPost W0 c d (sClose S k).2 dr (sClose S2 k).2 dr2 (S2 = S ∧ dr2 = dr)) := by
  have T0 := (T.fr (Fr.alloc (fun _ => False) W (.cells #[.int .i64 1, .int .i64 k, .int .i64 n, .slice a X.length cap] 32))).fr (Fr.drew (fun _ => False) _)
  have HW : Hid (Calls Try.prog 25 #[.pointer (some ⟨c, 0, none⟩), .int .i64 k] (W.alloc (.cells #[.int .i64 1, .int .i64 k, .int .i64 n, .slice a X.length cap] 32)).drew fun e V' => e = .returned (.int .i64 (sClose S k).1) ∧ ∃ ow', Two W0 V' c d (sClose S k).2 dr S2 dr2 ow' ox ∧ Fr (fun b => ow b ≠ none) (W.alloc (.cells #[.int .i64 1, .int .i64 k, .int .i64 n, .slice a X.length cap] 32)).drew V') := hide ((any_close T0.wd hk).mono (fun e V' ⟨he, ow', h1, h2⟩ => ⟨he, ow', T0.w h1 h2, h2.fr⟩))
  have HX : Hid (∀ V ow' S' dr', Two W0 V c d S' dr' S2 dr2 ow' ox → Calls Try.prog 27 #[.pointer (some ⟨d, 0, none⟩), .int .i64 k] V fun e V' => e = .returned (.int .i64 (sClose S2 k).1) ∧ ∃ ox', Two W0 V' c d S' dr' (sClose S2 k).2 dr2 ow' ox' ∧ Fr (fun b => ox b ≠ none) V V') := hide (fun V ow' S' dr' h => (rany_close h.xd hS2).mono (fun e V' ⟨he, ox', h1, h2⟩ => ⟨he, ox', h.x h1 h2, h2.fr⟩))
  have HP : Hid ((S2 = S ∧ dr2 = dr) → (sClose S k).1 = (sClose S2 k).1) := hide (fun ⟨e1, e2⟩ => by rw [e1])
  have hh : (W.alloc (.cells #[.int .i64 1, .int .i64 k, .int .i64 n, .slice a X.length cap] 32)).drew.heap[W.heap.size]? = some (.cells #[.int .i64 1, .int .i64 k, .int .i64 n, .slice a X.length cap] 32 (0, 0)) := (MapKept.heap_alloc W _).1
  have hsn := T.wd.fresh (Nat.le_refl W.heap.size)
  obtain ⟨r1, hr1⟩ : ∃ r, r = (sClose S k).1 := ⟨_, rfl⟩
  obtain ⟨r2, hr2⟩ : ∃ r, r = (sClose S2 k).1 := ⟨_, rfl⟩
  rw [← hr1] at HW HP
  rw [← hr2] at HX HP
  have HB : Hid (∀ V', Fr (fun b => ow b ≠ none) (W.alloc (.cells #[.int .i64 1, .int .i64 k, .int .i64 n, .slice a X.length cap] 32)).drew V' → V'.heap[W.heap.size]? = some (.cells #[.int .i64 1, .int .i64 k, .int .i64 n, .slice a X.length cap] 32 (0, 0))) := hide (fun V' F => F.hd (fun e => e hsn) hh)
  have hxn : ox W.heap.size = none := by
    cases ho : ox W.heap.size with
    | none => rfl
    | some t => exact absurd (T.xd.low _ t ho) (Nat.lt_irrefl _)
  clear hr1 hr2 T hS2 T0 hh hsn
  go_enter Try.func9, Try.ntmps9
  go_wp2_with fail
  go_region_held3 (fun w' => w'.cell? ⟨W.heap.size, 1, none⟩ = some (.int .i64 k) ∧ w'.cell? ⟨W.heap.size, 2, none⟩ = some (.int .i64 n) ∧ w'.cell? ⟨W.heap.size, 3, none⟩ = some (.slice a X.length cap)) (go_keep) (first
    | (go_at_call 25; refine HW.out.mono ?_
       rintro e V ⟨rfl, ow1, T1, F1⟩
       have hbV := HB.out V F1
       have s1 : V.cell? ⟨W.heap.size, 1, none⟩ = some (.int .i64 k) := by rw [cell_of hbV]; rfl
       have s2 : V.cell? ⟨W.heap.size, 2, none⟩ = some (.int .i64 n) := by rw [cell_of hbV]; rfl
       have s3 : V.cell? ⟨W.heap.size, 3, none⟩ = some (.slice a X.length cap) := by rw [cell_of hbV]; rfl
       clear F1)
    | (go_at_call 27; refine (HX.out _ _ _ _ T1).mono ?_
       rintro e V2 ⟨rfl, ox1, T2, F2⟩
       have hb2 := F2.hd (fun e => e hxn) hbV
       have u1 : V2.cell? ⟨W.heap.size, 1, none⟩ = some (.int .i64 k) := by rw [cell_of hb2]; rfl
       have u2 : V2.cell? ⟨W.heap.size, 2, none⟩ = some (.int .i64 n) := by rw [cell_of hb2]; rfl
       have u3 : V2.cell? ⟨W.heap.size, 3, none⟩ = some (.slice a X.length cap) := by rw [cell_of hb2]; rfl
       clear hb2 F2))
  all_goals go_wp2_with fail
  all_goals go_ret
  all_goals exact askPost (fun h => by rw [HP.out h]; simp) T2

set_option maxRecDepth 100000 in
set_option maxHeartbeats 4000000 in
theorem asks2 (T : Two W0 W c d S dr S2 dr2 ow ox) (hS2 : SOk S2 dr2) (k n : Int) (a : Option Addr) (cap : Nat) (X : List Int) (hk : (Lit.int .i64 k).wf = true) (hX : Sl W0.w .u8 (.slice a X.length cap) X) (hl : X.length ≤ 1048576) :
    Calls Try.prog 9 #[.pointer (some ⟨c, 0, none⟩), .pointer (some ⟨d, 0, none⟩), .agg #[.int .i64 2, .int .i64 k, .int .i64 n, .slice a X.length cap]] W (AskPost W0 c d (sArrive S k X).2 dr (sArrive S2 k X).2 dr2 (S2 = S ∧ dr2 = dr)) := by
  have T0 := (T.fr (Fr.alloc (fun _ => False) W (.cells #[.int .i64 2, .int .i64 k, .int .i64 n, .slice a X.length cap] 32))).fr (Fr.drew (fun _ => False) _)
  have HW : Hid (Calls Try.prog 19 #[.pointer (some ⟨c, 0, none⟩), .int .i64 k, .slice a X.length cap] (W.alloc (.cells #[.int .i64 2, .int .i64 k, .int .i64 n, .slice a X.length cap] 32)).drew fun e V' => e = .returned (.int .i64 (sArrive S k X).1) ∧ ∃ ow', Two W0 V' c d (sArrive S k X).2 dr S2 dr2 ow' ox ∧ Fr (fun b => ow b ≠ none) (W.alloc (.cells #[.int .i64 2, .int .i64 k, .int .i64 n, .slice a X.length cap] 32)).drew V') := hide ((any_arrive T0.wd hk (T0.sl hX) (by omega)).mono (fun e V' ⟨he, ow', h1, h2⟩ => ⟨he, ow', T0.w h1 h2, h2.fr⟩))
  have HX : Hid (∀ V ow' S' dr', Two W0 V c d S' dr' S2 dr2 ow' ox → Calls Try.prog 28 #[.pointer (some ⟨d, 0, none⟩), .int .i64 k, .slice a X.length cap] V fun e V' => e = .returned (.int .i64 (sArrive S2 k X).1) ∧ ∃ ox', Two W0 V' c d S' dr' (sArrive S2 k X).2 dr2 ow' ox' ∧ Fr (fun b => ox b ≠ none) V V') := hide (fun V ow' S' dr' h => (rany_arrive h.xd hS2 (h.sl hX) (by omega)).mono (fun e V' ⟨he, ox', h1, h2⟩ => ⟨he, ox', h.x h1 h2, h2.fr⟩))
  have HP : Hid ((S2 = S ∧ dr2 = dr) → (sArrive S k X).1 = (sArrive S2 k X).1) := hide (fun ⟨e1, e2⟩ => by rw [e1])
  have hh : (W.alloc (.cells #[.int .i64 2, .int .i64 k, .int .i64 n, .slice a X.length cap] 32)).drew.heap[W.heap.size]? = some (.cells #[.int .i64 2, .int .i64 k, .int .i64 n, .slice a X.length cap] 32 (0, 0)) := (MapKept.heap_alloc W _).1
  have hsn := T.wd.fresh (Nat.le_refl W.heap.size)
  obtain ⟨r1, hr1⟩ : ∃ r, r = (sArrive S k X).1 := ⟨_, rfl⟩
  obtain ⟨r2, hr2⟩ : ∃ r, r = (sArrive S2 k X).1 := ⟨_, rfl⟩
  rw [← hr1] at HW HP
  rw [← hr2] at HX HP
  have HB : Hid (∀ V', Fr (fun b => ow b ≠ none) (W.alloc (.cells #[.int .i64 2, .int .i64 k, .int .i64 n, .slice a X.length cap] 32)).drew V' → V'.heap[W.heap.size]? = some (.cells #[.int .i64 2, .int .i64 k, .int .i64 n, .slice a X.length cap] 32 (0, 0))) := hide (fun V' F => F.hd (fun e => e hsn) hh)
  have hxn : ox W.heap.size = none := by
    cases ho : ox W.heap.size with
    | none => rfl
    | some t => exact absurd (T.xd.low _ t ho) (Nat.lt_irrefl _)
  clear hr1 hr2 T hS2 T0 hh hsn
  go_enter Try.func9, Try.ntmps9
  go_wp2_with fail
  go_region_held3 (fun w' => w'.cell? ⟨W.heap.size, 1, none⟩ = some (.int .i64 k) ∧ w'.cell? ⟨W.heap.size, 2, none⟩ = some (.int .i64 n) ∧ w'.cell? ⟨W.heap.size, 3, none⟩ = some (.slice a X.length cap)) (go_keep) (first
    | (go_at_call 19; refine HW.out.mono ?_
       rintro e V ⟨rfl, ow1, T1, F1⟩
       have hbV := HB.out V F1
       have s1 : V.cell? ⟨W.heap.size, 1, none⟩ = some (.int .i64 k) := by rw [cell_of hbV]; rfl
       have s2 : V.cell? ⟨W.heap.size, 2, none⟩ = some (.int .i64 n) := by rw [cell_of hbV]; rfl
       have s3 : V.cell? ⟨W.heap.size, 3, none⟩ = some (.slice a X.length cap) := by rw [cell_of hbV]; rfl
       clear F1)
    | (go_at_call 28; refine (HX.out _ _ _ _ T1).mono ?_
       rintro e V2 ⟨rfl, ox1, T2, F2⟩
       have hb2 := F2.hd (fun e => e hxn) hbV
       have u1 : V2.cell? ⟨W.heap.size, 1, none⟩ = some (.int .i64 k) := by rw [cell_of hb2]; rfl
       have u2 : V2.cell? ⟨W.heap.size, 2, none⟩ = some (.int .i64 n) := by rw [cell_of hb2]; rfl
       have u3 : V2.cell? ⟨W.heap.size, 3, none⟩ = some (.slice a X.length cap) := by rw [cell_of hb2]; rfl
       clear hb2 F2))
  all_goals go_wp2_with fail
  all_goals go_ret
  all_goals exact askPost (fun h => by rw [HP.out h]; simp) T2

set_option maxRecDepth 100000 in
set_option maxHeartbeats 4000000 in
theorem asks3 (T : Two W0 W c d S dr S2 dr2 ow ox) (hS2 : SOk S2 dr2) (k n : Int) (a : Option Addr) (cap : Nat) (X : List Int) (hk : (Lit.int .i64 k).wf = true) :
    Calls Try.prog 9 #[.pointer (some ⟨c, 0, none⟩), .pointer (some ⟨d, 0, none⟩), .agg #[.int .i64 3, .int .i64 k, .int .i64 n, .slice a X.length cap]] W (AskPost W0 c d (sEnd S k).2 dr (sEnd S2 k).2 dr2 (S2 = S ∧ dr2 = dr)) := by
  have T0 := (T.fr (Fr.alloc (fun _ => False) W (.cells #[.int .i64 3, .int .i64 k, .int .i64 n, .slice a X.length cap] 32))).fr (Fr.drew (fun _ => False) _)
  have HW : Hid (Calls Try.prog 29 #[.pointer (some ⟨c, 0, none⟩), .int .i64 k] (W.alloc (.cells #[.int .i64 3, .int .i64 k, .int .i64 n, .slice a X.length cap] 32)).drew fun e V' => e = .returned (.int .i64 (sEnd S k).1) ∧ ∃ ow', Two W0 V' c d (sEnd S k).2 dr S2 dr2 ow' ox ∧ Fr (fun b => ow b ≠ none) (W.alloc (.cells #[.int .i64 3, .int .i64 k, .int .i64 n, .slice a X.length cap] 32)).drew V') := hide ((any_end T0.wd hk).mono (fun e V' ⟨he, ow', h1, h2⟩ => ⟨he, ow', T0.w h1 h2, h2.fr⟩))
  have HX : Hid (∀ V ow' S' dr', Two W0 V c d S' dr' S2 dr2 ow' ox → Calls Try.prog 30 #[.pointer (some ⟨d, 0, none⟩), .int .i64 k] V fun e V' => e = .returned (.int .i64 (sEnd S2 k).1) ∧ ∃ ox', Two W0 V' c d S' dr' (sEnd S2 k).2 dr2 ow' ox' ∧ Fr (fun b => ox b ≠ none) V V') := hide (fun V ow' S' dr' h => (rany_end h.xd hS2).mono (fun e V' ⟨he, ox', h1, h2⟩ => ⟨he, ox', h.x h1 h2, h2.fr⟩))
  have HP : Hid ((S2 = S ∧ dr2 = dr) → (sEnd S k).1 = (sEnd S2 k).1) := hide (fun ⟨e1, e2⟩ => by rw [e1])
  have hh : (W.alloc (.cells #[.int .i64 3, .int .i64 k, .int .i64 n, .slice a X.length cap] 32)).drew.heap[W.heap.size]? = some (.cells #[.int .i64 3, .int .i64 k, .int .i64 n, .slice a X.length cap] 32 (0, 0)) := (MapKept.heap_alloc W _).1
  have hsn := T.wd.fresh (Nat.le_refl W.heap.size)
  obtain ⟨r1, hr1⟩ : ∃ r, r = (sEnd S k).1 := ⟨_, rfl⟩
  obtain ⟨r2, hr2⟩ : ∃ r, r = (sEnd S2 k).1 := ⟨_, rfl⟩
  rw [← hr1] at HW HP
  rw [← hr2] at HX HP
  have HB : Hid (∀ V', Fr (fun b => ow b ≠ none) (W.alloc (.cells #[.int .i64 3, .int .i64 k, .int .i64 n, .slice a X.length cap] 32)).drew V' → V'.heap[W.heap.size]? = some (.cells #[.int .i64 3, .int .i64 k, .int .i64 n, .slice a X.length cap] 32 (0, 0))) := hide (fun V' F => F.hd (fun e => e hsn) hh)
  have hxn : ox W.heap.size = none := by
    cases ho : ox W.heap.size with
    | none => rfl
    | some t => exact absurd (T.xd.low _ t ho) (Nat.lt_irrefl _)
  clear hr1 hr2 T hS2 T0 hh hsn
  go_enter Try.func9, Try.ntmps9
  go_wp2_with fail
  go_region_held3 (fun w' => w'.cell? ⟨W.heap.size, 1, none⟩ = some (.int .i64 k) ∧ w'.cell? ⟨W.heap.size, 2, none⟩ = some (.int .i64 n) ∧ w'.cell? ⟨W.heap.size, 3, none⟩ = some (.slice a X.length cap)) (go_keep) (first
    | (go_at_call 29; refine HW.out.mono ?_
       rintro e V ⟨rfl, ow1, T1, F1⟩
       have hbV := HB.out V F1
       have s1 : V.cell? ⟨W.heap.size, 1, none⟩ = some (.int .i64 k) := by rw [cell_of hbV]; rfl
       have s2 : V.cell? ⟨W.heap.size, 2, none⟩ = some (.int .i64 n) := by rw [cell_of hbV]; rfl
       have s3 : V.cell? ⟨W.heap.size, 3, none⟩ = some (.slice a X.length cap) := by rw [cell_of hbV]; rfl
       clear F1)
    | (go_at_call 30; refine (HX.out _ _ _ _ T1).mono ?_
       rintro e V2 ⟨rfl, ox1, T2, F2⟩
       have hb2 := F2.hd (fun e => e hxn) hbV
       have u1 : V2.cell? ⟨W.heap.size, 1, none⟩ = some (.int .i64 k) := by rw [cell_of hb2]; rfl
       have u2 : V2.cell? ⟨W.heap.size, 2, none⟩ = some (.int .i64 n) := by rw [cell_of hb2]; rfl
       have u3 : V2.cell? ⟨W.heap.size, 3, none⟩ = some (.slice a X.length cap) := by rw [cell_of hb2]; rfl
       clear hb2 F2))
  all_goals go_wp2_with fail
  all_goals go_ret
  all_goals exact askPost (fun h => by rw [HP.out h]; simp) T2

set_option maxRecDepth 100000 in
set_option maxHeartbeats 4000000 in
theorem asks5 (T : Two W0 W c d S dr S2 dr2 ow ox) (hS2 : SOk S2 dr2) (k n : Int) (a : Option Addr) (cap : Nat) (X : List Int) (hk : (Lit.int .i64 k).wf = true) :
    Calls Try.prog 9 #[.pointer (some ⟨c, 0, none⟩), .pointer (some ⟨d, 0, none⟩), .agg #[.int .i64 5, .int .i64 k, .int .i64 n, .slice a X.length cap]] W (AskPost W0 c d (sRoom S k n).2 dr (sRoom S2 k n).2 dr2 (S2 = S ∧ dr2 = dr)) := by
  have T0 := (T.fr (Fr.alloc (fun _ => False) W (.cells #[.int .i64 5, .int .i64 k, .int .i64 n, .slice a X.length cap] 32))).fr (Fr.drew (fun _ => False) _)
  have HW : Hid (Calls Try.prog 21 #[.pointer (some ⟨c, 0, none⟩), .int .i64 k, .int .i64 n] (W.alloc (.cells #[.int .i64 5, .int .i64 k, .int .i64 n, .slice a X.length cap] 32)).drew fun e V' => e = .returned (.int .i64 (sRoom S k n).1) ∧ ∃ ow', Two W0 V' c d (sRoom S k n).2 dr S2 dr2 ow' ox ∧ Fr (fun b => ow b ≠ none) (W.alloc (.cells #[.int .i64 5, .int .i64 k, .int .i64 n, .slice a X.length cap] 32)).drew V') := hide ((any_room T0.wd hk n).mono (fun e V' ⟨he, ow', h1, h2⟩ => ⟨he, ow', T0.w h1 h2, h2.fr⟩))
  have HX : Hid (∀ V ow' S' dr', Two W0 V c d S' dr' S2 dr2 ow' ox → Calls Try.prog 32 #[.pointer (some ⟨d, 0, none⟩), .int .i64 k, .int .i64 n] V fun e V' => e = .returned (.int .i64 (sRoom S2 k n).1) ∧ ∃ ox', Two W0 V' c d S' dr' (sRoom S2 k n).2 dr2 ow' ox' ∧ Fr (fun b => ox b ≠ none) V V') := hide (fun V ow' S' dr' h => (rany_room h.xd hS2 n).mono (fun e V' ⟨he, ox', h1, h2⟩ => ⟨he, ox', h.x h1 h2, h2.fr⟩))
  have HP : Hid ((S2 = S ∧ dr2 = dr) → (sRoom S k n).1 = (sRoom S2 k n).1) := hide (fun ⟨e1, e2⟩ => by rw [e1])
  have hh : (W.alloc (.cells #[.int .i64 5, .int .i64 k, .int .i64 n, .slice a X.length cap] 32)).drew.heap[W.heap.size]? = some (.cells #[.int .i64 5, .int .i64 k, .int .i64 n, .slice a X.length cap] 32 (0, 0)) := (MapKept.heap_alloc W _).1
  have hsn := T.wd.fresh (Nat.le_refl W.heap.size)
  obtain ⟨r1, hr1⟩ : ∃ r, r = (sRoom S k n).1 := ⟨_, rfl⟩
  obtain ⟨r2, hr2⟩ : ∃ r, r = (sRoom S2 k n).1 := ⟨_, rfl⟩
  rw [← hr1] at HW HP
  rw [← hr2] at HX HP
  have HB : Hid (∀ V', Fr (fun b => ow b ≠ none) (W.alloc (.cells #[.int .i64 5, .int .i64 k, .int .i64 n, .slice a X.length cap] 32)).drew V' → V'.heap[W.heap.size]? = some (.cells #[.int .i64 5, .int .i64 k, .int .i64 n, .slice a X.length cap] 32 (0, 0))) := hide (fun V' F => F.hd (fun e => e hsn) hh)
  have hxn : ox W.heap.size = none := by
    cases ho : ox W.heap.size with
    | none => rfl
    | some t => exact absurd (T.xd.low _ t ho) (Nat.lt_irrefl _)
  clear hr1 hr2 T hS2 T0 hh hsn
  go_enter Try.func9, Try.ntmps9
  go_wp2_with fail
  go_region_held3 (fun w' => w'.cell? ⟨W.heap.size, 1, none⟩ = some (.int .i64 k) ∧ w'.cell? ⟨W.heap.size, 2, none⟩ = some (.int .i64 n) ∧ w'.cell? ⟨W.heap.size, 3, none⟩ = some (.slice a X.length cap)) (go_keep) (first
    | (go_at_call 21; refine HW.out.mono ?_
       rintro e V ⟨rfl, ow1, T1, F1⟩
       have hbV := HB.out V F1
       have s1 : V.cell? ⟨W.heap.size, 1, none⟩ = some (.int .i64 k) := by rw [cell_of hbV]; rfl
       have s2 : V.cell? ⟨W.heap.size, 2, none⟩ = some (.int .i64 n) := by rw [cell_of hbV]; rfl
       have s3 : V.cell? ⟨W.heap.size, 3, none⟩ = some (.slice a X.length cap) := by rw [cell_of hbV]; rfl
       clear F1)
    | (go_at_call 32; refine (HX.out _ _ _ _ T1).mono ?_
       rintro e V2 ⟨rfl, ox1, T2, F2⟩
       have hb2 := F2.hd (fun e => e hxn) hbV
       have u1 : V2.cell? ⟨W.heap.size, 1, none⟩ = some (.int .i64 k) := by rw [cell_of hb2]; rfl
       have u2 : V2.cell? ⟨W.heap.size, 2, none⟩ = some (.int .i64 n) := by rw [cell_of hb2]; rfl
       have u3 : V2.cell? ⟨W.heap.size, 3, none⟩ = some (.slice a X.length cap) := by rw [cell_of hb2]; rfl
       clear hb2 F2))
  all_goals go_wp2_with fail
  all_goals go_ret
  all_goals exact askPost (fun h => by rw [HP.out h]; simp) T2

set_option maxRecDepth 100000 in
set_option maxHeartbeats 4000000 in
theorem asks7 (T : Two W0 W c d S dr S2 dr2 ow ox) (k n : Int) (a : Option Addr) (cap : Nat) (X : List Int)  :
    Calls Try.prog 9 #[.pointer (some ⟨c, 0, none⟩), .pointer (some ⟨d, 0, none⟩), .agg #[.int .i64 7, .int .i64 k, .int .i64 n, .slice a X.length cap]] W (AskPost W0 c d S (sGive dr n).2 S2 (sGive dr2 n).2 (S2 = S ∧ dr2 = dr)) := by
  have T0 := (T.fr (Fr.alloc (fun _ => False) W (.cells #[.int .i64 7, .int .i64 k, .int .i64 n, .slice a X.length cap] 32))).fr (Fr.drew (fun _ => False) _)
  have HW : Hid (Calls Try.prog 24 #[.pointer (some ⟨c, 0, none⟩), .int .i64 n] (W.alloc (.cells #[.int .i64 7, .int .i64 k, .int .i64 n, .slice a X.length cap] 32)).drew fun e V' => e = .returned (.int .i64 (sGive dr n).1) ∧ ∃ ow', Two W0 V' c d S (sGive dr n).2 S2 dr2 ow' ox ∧ Fr (fun b => ow b ≠ none) (W.alloc (.cells #[.int .i64 7, .int .i64 k, .int .i64 n, .slice a X.length cap] 32)).drew V') := hide ((any_give T0.wd n).mono (fun e V' ⟨he, ow', h1, h2⟩ => ⟨he, ow', T0.w h1 h2, h2.fr⟩))
  have HX : Hid (∀ V ow' S' dr', Two W0 V c d S' dr' S2 dr2 ow' ox → Calls Try.prog 34 #[.pointer (some ⟨d, 0, none⟩), .int .i64 n] V fun e V' => e = .returned (.int .i64 (sGive dr2 n).1) ∧ ∃ ox', Two W0 V' c d S' dr' S2 (sGive dr2 n).2 ow' ox' ∧ Fr (fun b => ox b ≠ none) V V') := hide (fun V ow' S' dr' h => (rgive_any h.xd n).mono (fun e V' ⟨he, ox', h1, h2⟩ => ⟨he, ox', h.x h1 h2, h2.fr⟩))
  have HP : Hid ((S2 = S ∧ dr2 = dr) → (sGive dr n).1 = (sGive dr2 n).1) := hide (fun ⟨e1, e2⟩ => by rw [e2])
  have hh : (W.alloc (.cells #[.int .i64 7, .int .i64 k, .int .i64 n, .slice a X.length cap] 32)).drew.heap[W.heap.size]? = some (.cells #[.int .i64 7, .int .i64 k, .int .i64 n, .slice a X.length cap] 32 (0, 0)) := (MapKept.heap_alloc W _).1
  have hsn := T.wd.fresh (Nat.le_refl W.heap.size)
  obtain ⟨r1, hr1⟩ : ∃ r, r = (sGive dr n).1 := ⟨_, rfl⟩
  obtain ⟨r2, hr2⟩ : ∃ r, r = (sGive dr2 n).1 := ⟨_, rfl⟩
  rw [← hr1] at HW HP
  rw [← hr2] at HX HP
  have HB : Hid (∀ V', Fr (fun b => ow b ≠ none) (W.alloc (.cells #[.int .i64 7, .int .i64 k, .int .i64 n, .slice a X.length cap] 32)).drew V' → V'.heap[W.heap.size]? = some (.cells #[.int .i64 7, .int .i64 k, .int .i64 n, .slice a X.length cap] 32 (0, 0))) := hide (fun V' F => F.hd (fun e => e hsn) hh)
  have hxn : ox W.heap.size = none := by
    cases ho : ox W.heap.size with
    | none => rfl
    | some t => exact absurd (T.xd.low _ t ho) (Nat.lt_irrefl _)
  clear hr1 hr2 T T0 hh hsn
  go_enter Try.func9, Try.ntmps9
  go_wp2_with fail
  go_region_held3 (fun w' => w'.cell? ⟨W.heap.size, 1, none⟩ = some (.int .i64 k) ∧ w'.cell? ⟨W.heap.size, 2, none⟩ = some (.int .i64 n) ∧ w'.cell? ⟨W.heap.size, 3, none⟩ = some (.slice a X.length cap)) (go_keep) (first
    | (go_at_call 24; refine HW.out.mono ?_
       rintro e V ⟨rfl, ow1, T1, F1⟩
       have hbV := HB.out V F1
       have s1 : V.cell? ⟨W.heap.size, 1, none⟩ = some (.int .i64 k) := by rw [cell_of hbV]; rfl
       have s2 : V.cell? ⟨W.heap.size, 2, none⟩ = some (.int .i64 n) := by rw [cell_of hbV]; rfl
       have s3 : V.cell? ⟨W.heap.size, 3, none⟩ = some (.slice a X.length cap) := by rw [cell_of hbV]; rfl
       clear F1)
    | (go_at_call 34; refine (HX.out _ _ _ _ T1).mono ?_
       rintro e V2 ⟨rfl, ox1, T2, F2⟩
       have hb2 := F2.hd (fun e => e hxn) hbV
       have u1 : V2.cell? ⟨W.heap.size, 1, none⟩ = some (.int .i64 k) := by rw [cell_of hb2]; rfl
       have u2 : V2.cell? ⟨W.heap.size, 2, none⟩ = some (.int .i64 n) := by rw [cell_of hb2]; rfl
       have u3 : V2.cell? ⟨W.heap.size, 3, none⟩ = some (.slice a X.length cap) := by rw [cell_of hb2]; rfl
       clear hb2 F2))
  all_goals go_wp2_with fail
  all_goals go_ret
  all_goals exact askPost (fun h => by rw [HP.out h]; simp) T2
end
end Go.Proofs.Ytpgbpfdgbajhlaa
