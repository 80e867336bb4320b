/- WorldRoom returns true for all rooms and all pieces, and changes nothing that was there. -/
import Derived.Test.YtpgbpfdgbajhlaaArgs
import Derived.Deep.RegionWith
namespace Go.Proofs.Ytpgbpfdgbajhlaa
open Go.ChangeShapes Go.WideShapes Go.ChangeAt Go.RowKit

theorem Wd.grown {W W' : World} {c : Nat} {S : List Cn} {dr : List Int} {own : Nat → Option Tag} (h : Wd W c S dr own) {go : Option Nat} (hg : W.grownBy W' go) (hn : ∀ g, go = some g → own g = none) : Wd W' c S dr own :=
  h.frame hg.size (fun b t e => hg.block b (h.low b t e) (fun eb => by rw [hn b eb.symm] at e; cases e))
theorem Kp.grown {W0 W W' : World} {own : Nat → Option Tag} (h : Kp (fun _ => none) own W0 W) {go : Option Nat} (hg : W.grownBy W' go) (hn : ∀ g, go = some g → W0.heap.size ≤ g) : Kp (fun _ => none) own W0 W' :=
  ⟨h.fr.trans (Fr.grown hg) (fun i hi e => by have := hn i e; omega), h.no⟩
theorem Kp.old {W0 W : World} {own : Nat → Option Tag} (h : Kp (fun _ => none) own W0 W) : Fr (fun i => W0.heap.size ≤ i) W0 W := h.fr.mono (fun _ _ e => (e rfl).elim)
/-- A row of the law's own, beside the world. -/
structure Mine (W0 wr : World) (own : Nat → Option Tag) (q : IntKind) (v : Value) (l : List Int) (go : Option Nat) : Prop where
  row : Row wr q v l go
  off : ∀ g, go = some g → own g = none
  new : ∀ g, go = some g → W0.heap.size ≤ g
theorem Mine.through {W0 W W' : World} {own own' : Nat → Option Tag} {q : IntKind} {v : Value} {l : List Int} {go : Option Nat} (h : Mine W0 W own q v l go) (hk : Kp own own' W W') : Mine W0 W' own' q v l go :=
  ⟨(h.row.through hk h.off).1, (h.row.through hk h.off).2, h.new⟩
theorem Mine.nil (W0 W : World) (own : Nat → Option Tag) (q : IntKind) : Mine W0 W own q (.slice none 0 0) [] none := ⟨Row.nil _ _, nofun, nofun⟩
theorem Mine.append {W0 W W' : World} {c : Nat} {S : List Cn} {dr : List Int} {own : Nat → Option Tag} {q : IntKind} {v v' : Value} {l l' : List Int} {go go' : Option Nat} (h : Mine W0 W own q v l go) (hw : Wd W c S dr own) (hs : W0.heap.size ≤ W.heap.size) (hR : Row W' q v' l' go') (hgo : go' = go ∨ ∃ g, go' = some g ∧ W.heap.size ≤ g) : Mine W0 W' own q v' l' go' := by
  rcases hgo with rfl | ⟨g, rfl, hg⟩
  · exact ⟨hR, h.off, h.new⟩
  · exact ⟨hR, fun g' e => by cases e; exact hw.fresh hg, fun g' e => by cases e; omega⟩

theorem Sl.cells {W : World} {q : IntKind} {a : Option Addr} {cap : Nat} {l : List Int} (h : Sl W q (.slice a l.length cap) l) : ∀ i, i < l.length → ∃ b off, a = some ⟨b, off, none⟩ ∧ W.cell? ⟨b, off + i, none⟩ = some (.int q (l.getD i 0)) := by
  obtain ⟨a', cap', e, _, _, h⟩ := h
  cases e
  exact h
theorem Fr.cellOld {W0 W : World} (h : Fr (fun i => W0.heap.size ≤ i) W0 W) {a : Addr} {v : Value} (hc : W0.cell? a = some v) : W.cell? a = some v := by
  have hb : a.block < W0.heap.size := World.block_lt_of_cell? _ _ hc
  exact (World.cell?_of_block (h.block a.block hb (by omega))).trans hc

def cn3 (L : List Int) (r : Int) : Cn := ⟨3, true, false, [], L, r⟩
/-- What holds ahead of each round. -/
structure RmInv (W0 : World) (c : Nat) (gv : Int) (v : Value) (wr : World) (L : List Int) (r : Int) (own : Nat → Option Tag) (go : Option Nat) : Prop where
  wd : Wd wr c [cn3 L r] [] own
  kp : Kp (fun _ => none) own W0 wr
  mine : Mine W0 wr own .u8 v L go
  r0 : 0 ≤ r
  g0 : 0 ≤ gv
  g1 : gv ≤ 1065536
  le : r + L.length ≤ gv
  eq : gv ≤ 1000000 → r + L.length = gv

set_option maxHeartbeats 4000000 in
set_option maxRecDepth 100000 in
theorem room_walk (ar ap : Option Addr) (capr lenp capp : Nat) (R : List Int) (Xf : Nat → List Int) (W : World) (hR : Hid (Sl W .i64 (.slice ar R.length capr) R)) (hRl : R.length ≤ 9223372036854775807) (hlen : lenp ≤ 9223372036854775807)
    (hst : Hid (∀ i, i < lenp → ∃ b off a c, ap = some ⟨b, off, none⟩ ∧ PieceAt W b off i a c (Xf i))) :
    Calls Try.prog 5 #[.slice ar R.length capr, .slice ap lenp capp] W fun e w' => e = .returned (.bool true) ∧ Below W.heap.size W w' := by
  go_enter Try.func5, Try.ntmps5
  go_wp2_with fail
  refine (does_new W).mono ?_
  rintro e w1 ⟨rfl, rfl⟩
  have D1 := hide (Wd.begin W)
  have K1 := hide (Kp.begin W)
  obtain ⟨w1, hw1⟩ : ∃ w1, w1 = W.alloc (.cells #[.map none, .map none, .slice none 0 0] 61) := ⟨_, rfl⟩
  rw [← hw1] at D1 K1 ⊢
  have o1 := hide (does_open D1.out (k := 3) (by omega) (by omega) nofun (by simp) (by simp))
  clear hw1 D1
  unfold ptr at o1 ⊢
  go_wp2_with fail
  refine o1.out.mono ?_
  rintro e w2 ⟨rfl, own2, D2, K2⟩
  have I0 : Hid (∃ L r own go, RmInv W W.heap.size 0 (.slice none 0 0) w2 L r own go) := hide ⟨[], 0, own2, none, D2, K1.out.trans K2, Mine.nil _ _ _ _, by omega, by omega, by omega, by simp, by simp⟩
  clear K1 K2 o1 D2
  go_wp2_with fail
  go_loopw [6, 7, 22] (fun g u v wr => ∃ (j : Nat) (gv : Int), j ≤ lenp ∧ v = .int .i64 (j : Int) ∧ g = .int .i64 gv ∧ Hid (∃ L r own go, RmInv W W.heap.size gv u wr L r own go)) (fun _ _ v _ => lenp - (intOf v).toNat)
  case atStart => exact ⟨0, 0, Nat.zero_le _, rfl, rfl, I0⟩
  case round =>
    clear I0
    obtain ⟨j, gv, hj, rfl, rfl, HI⟩ := hrel
    obtain ⟨L, r, own, go, HI⟩ := HI.out
    obtain ⟨a7, c7, e7, _⟩ := HI.mine.row.sl
    subst e7
    have r0 := HI.r0
    have g0 := HI.g0
    have g1 := HI.g1
    have le := HI.le
    have heq := hide HI.eq
    by_cases hlt : j < lenp
    · obtain ⟨pb, po, xa, xc, rfl, P0⟩ := hst.out j hlt
      have P1 := P0.frame HI.kp.old
      have cp := P1.c0
      obtain ⟨X, HX⟩ : ∃ X, Hid (Xf j = X) := ⟨_, hide rfl⟩
      rw [HX.out] at P1 cp P0
      have hxl := P1.len
      have hcap : X.length ≤ xc := by obtain ⟨_, _, e, h, _⟩ := P1.sl; cases e; exact h
      have hSl := hide P0
      have D := hide HI.wd
      have K := hide HI.kp
      have M := hide HI.mine
      clear P1 P0 HI hst HX
      by_cases hjR : j < R.length
      · obtain ⟨rb, ro, hra, cr0⟩ := (Sl.cells hR.out) j hjR
        subst hra
        have cr := K.out.old.cellOld cr0
        obtain ⟨x, Hx⟩ : ∃ x, Hid (R.getD j 0 = x) := ⟨_, hide rfl⟩
        rw [Hx.out] at cr cr0
        replace cr0 := hide cr0
        clear hR
        by_cases hx0 : 0 ≤ x
        · by_cases hx1 : x ≤ 65536
          · by_cases hx2 : gv < 1000000
            · go_wp2_with fail
              refine (does_room D.out (i := 0) (x := cn3 L r) rfl rfl (n := x) hx0).mono ?_
              rintro e w5 ⟨rfl, D', K'⟩
              obtain ⟨r1, hr1⟩ : ∃ r1, r1 = min 1048576 (r + x) := ⟨_, rfl⟩
              replace D : Hid (Wd w5 W.heap.size [cn3 L r1] [] own) := hide (by rw [hr1]; simpa [cn3] using D')
              replace M := hide (M.out.through K')
              replace K := hide (K.out.trans K')
              have r0' : 0 ≤ r1 := by omega
              have le' : r1 + L.length ≤ gv + x := by omega
              have g1' : gv + x ≤ 1065536 := by omega
              have heq2 : Hid (gv + x ≤ 1000000 → r1 + L.length = gv + x) := hide (fun h => by have := heq.out (by omega); omega)
              have cr5 := K.out.old.cellOld cr0.out
              clear heq hr1 D' K' cr cr0 le g1 r0 hx2
              go_wp2_with fail
              have hS3 := (hSl.out.frame K.out.old).sl
              obtain ⟨m, hm⟩ : ∃ m : Nat, (m : Int) = min (X.length : Int) (r1) := ⟨(min (X.length : Int) (r1)).toNat, by omega⟩
              have hmX : m ≤ X.length := by omega
              have hm0 : 0 ≤ (r1) - m := by omega
              have hm1 : (r1) - m + (L.length + m : Nat) = (r1) + L.length := by omega
              have hmc : m ≤ xc := by omega
              refine (does_write D.out (i := 0) (x := cn3 L (r1)) rfl rfl hS3 (by simp only [cn3]; omega)).mono ?_
              rintro e w3 ⟨rfl, own3, D3, K3⟩
              have em : min (X.length : Int) (cn3 L (r1)).room = (m : Int) := by simp only [cn3]; omega
              rw [em] at D3 ⊢
              clear em
              replace D3 : Hid (Wd w3 W.heap.size [cn3 (L ++ X.take m) ((r1) - m)] [] own3) := hide (by simpa [cn3] using D3)
              have M3 := hide (M.out.through K3)
              have K4 := hide (K.out.trans K3)
              have hsz := K4.out.fr.size
              have hT := hide (((hSl.out.frame K4.out.old).sl).take hmX)
              have Hm := hide hm
              clear D M K K3 hS3 hm
              go_wp2_with (first
                | (at_builtin; refine wpList_append_bytes rfl _ _ rfl _ (.slice a7 L.length c7) (.slice xa m xc) L (X.take m) go rfl rfl M3.out.row hT.out (by simp; omega) ?_
                   intro v' W1 go' h1 h2 h3
                   have D5 := hide (D3.out.grown h2 M3.out.off)
                   have K5 := hide (K4.out.grown h2 M3.out.new)
                   have M5 := hide (M3.out.append D3.out hsz h1 h3)
                   obtain ⟨a1, d1, hv1, _⟩ := h1.sl
                   have hl5 : (L ++ X.take m).length = L.length + m := by simp; omega
                   rw [hl5] at hv1
                   subst hv1
                   clear h1 h2 h3)
                | go_in)
              all_goals first | (exfalso; have := heq2.out; have := Hm.out; omega) | skip
              all_goals
                go_roundw
                case rel => exact ⟨j + 1, (gv + x), by omega, by go_num, rfl, hide ⟨_, _, own3, go', D5.out, K5.out, M5.out, by omega, by omega, by omega, by simp only [hl5]; omega, fun _ => by have := heq2.out; simp only [hl5]; omega⟩⟩
                case measure => simp [intOf]; omega
            · have hx3 : 1000000 ≤ gv := by omega
              clear hx2 cr0
              go_wp2_with fail
              have hS3 := (hSl.out.frame K.out.old).sl
              obtain ⟨m, hm⟩ : ∃ m : Nat, (m : Int) = min (X.length : Int) (r) := ⟨(min (X.length : Int) (r)).toNat, by omega⟩
              have hmX : m ≤ X.length := by omega
              have hm0 : 0 ≤ (r) - m := by omega
              have hm1 : (r) - m + (L.length + m : Nat) = (r) + L.length := by omega
              have hmc : m ≤ xc := by omega
              refine (does_write D.out (i := 0) (x := cn3 L (r)) rfl rfl hS3 (by simp only [cn3]; omega)).mono ?_
              rintro e w3 ⟨rfl, own3, D3, K3⟩
              have em : min (X.length : Int) (cn3 L (r)).room = (m : Int) := by simp only [cn3]; omega
              rw [em] at D3 ⊢
              clear em
              replace D3 : Hid (Wd w3 W.heap.size [cn3 (L ++ X.take m) ((r) - m)] [] own3) := hide (by simpa [cn3] using D3)
              have M3 := hide (M.out.through K3)
              have K4 := hide (K.out.trans K3)
              have hsz := K4.out.fr.size
              have hT := hide (((hSl.out.frame K4.out.old).sl).take hmX)
              have Hm := hide hm
              clear D M K K3 hS3 hm
              go_wp2_with (first
                | (at_builtin; refine wpList_append_bytes rfl _ _ rfl _ (.slice a7 L.length c7) (.slice xa m xc) L (X.take m) go rfl rfl M3.out.row hT.out (by simp; omega) ?_
                   intro v' W1 go' h1 h2 h3
                   have D5 := hide (D3.out.grown h2 M3.out.off)
                   have K5 := hide (K4.out.grown h2 M3.out.new)
                   have M5 := hide (M3.out.append D3.out hsz h1 h3)
                   obtain ⟨a1, d1, hv1, _⟩ := h1.sl
                   have hl5 : (L ++ X.take m).length = L.length + m := by simp; omega
                   rw [hl5] at hv1
                   subst hv1
                   clear h1 h2 h3)
                | go_in)
              all_goals first | (exfalso; have := heq.out; have := Hm.out; omega) | skip
              all_goals
                go_roundw
                case rel => exact ⟨j + 1, gv, by omega, by go_num, rfl, hide ⟨_, _, own3, go', D5.out, K5.out, M5.out, by omega, by omega, by omega, by simp only [hl5]; omega, fun _ => by have := heq.out; simp only [hl5]; omega⟩⟩
                case measure => simp [intOf]; omega
          · have hx3 : 65536 < x := by omega
            clear hx1 cr0
            go_wp2_with fail
            have hS3 := (hSl.out.frame K.out.old).sl
            obtain ⟨m, hm⟩ : ∃ m : Nat, (m : Int) = min (X.length : Int) (r) := ⟨(min (X.length : Int) (r)).toNat, by omega⟩
            have hmX : m ≤ X.length := by omega
            have hm0 : 0 ≤ (r) - m := by omega
            have hm1 : (r) - m + (L.length + m : Nat) = (r) + L.length := by omega
            have hmc : m ≤ xc := by omega
            refine (does_write D.out (i := 0) (x := cn3 L (r)) rfl rfl hS3 (by simp only [cn3]; omega)).mono ?_
            rintro e w3 ⟨rfl, own3, D3, K3⟩
            have em : min (X.length : Int) (cn3 L (r)).room = (m : Int) := by simp only [cn3]; omega
            rw [em] at D3 ⊢
            clear em
            replace D3 : Hid (Wd w3 W.heap.size [cn3 (L ++ X.take m) ((r) - m)] [] own3) := hide (by simpa [cn3] using D3)
            have M3 := hide (M.out.through K3)
            have K4 := hide (K.out.trans K3)
            have hsz := K4.out.fr.size
            have hT := hide (((hSl.out.frame K4.out.old).sl).take hmX)
            have Hm := hide hm
            clear D M K K3 hS3 hm
            go_wp2_with (first
              | (at_builtin; refine wpList_append_bytes rfl _ _ rfl _ (.slice a7 L.length c7) (.slice xa m xc) L (X.take m) go rfl rfl M3.out.row hT.out (by simp; omega) ?_
                 intro v' W1 go' h1 h2 h3
                 have D5 := hide (D3.out.grown h2 M3.out.off)
                 have K5 := hide (K4.out.grown h2 M3.out.new)
                 have M5 := hide (M3.out.append D3.out hsz h1 h3)
                 obtain ⟨a1, d1, hv1, _⟩ := h1.sl
                 have hl5 : (L ++ X.take m).length = L.length + m := by simp; omega
                 rw [hl5] at hv1
                 subst hv1
                 clear h1 h2 h3)
              | go_in)
            all_goals first | (exfalso; have := heq.out; have := Hm.out; omega) | skip
            all_goals
              go_roundw
              case rel => exact ⟨j + 1, gv, by omega, by go_num, rfl, hide ⟨_, _, own3, go', D5.out, K5.out, M5.out, by omega, by omega, by omega, by simp only [hl5]; omega, fun _ => by have := heq.out; simp only [hl5]; omega⟩⟩
              case measure => simp [intOf]; omega
        · have hx3 : x < 0 := by omega
          clear hx0 cr0
          go_wp2_with fail
          have hS3 := (hSl.out.frame K.out.old).sl
          obtain ⟨m, hm⟩ : ∃ m : Nat, (m : Int) = min (X.length : Int) (r) := ⟨(min (X.length : Int) (r)).toNat, by omega⟩
          have hmX : m ≤ X.length := by omega
          have hm0 : 0 ≤ (r) - m := by omega
          have hm1 : (r) - m + (L.length + m : Nat) = (r) + L.length := by omega
          have hmc : m ≤ xc := by omega
          refine (does_write D.out (i := 0) (x := cn3 L (r)) rfl rfl hS3 (by simp only [cn3]; omega)).mono ?_
          rintro e w3 ⟨rfl, own3, D3, K3⟩
          have em : min (X.length : Int) (cn3 L (r)).room = (m : Int) := by simp only [cn3]; omega
          rw [em] at D3 ⊢
          clear em
          replace D3 : Hid (Wd w3 W.heap.size [cn3 (L ++ X.take m) ((r) - m)] [] own3) := hide (by simpa [cn3] using D3)
          have M3 := hide (M.out.through K3)
          have K4 := hide (K.out.trans K3)
          have hsz := K4.out.fr.size
          have hT := hide (((hSl.out.frame K4.out.old).sl).take hmX)
          have Hm := hide hm
          clear D M K K3 hS3 hm
          go_wp2_with (first
            | (at_builtin; refine wpList_append_bytes rfl _ _ rfl _ (.slice a7 L.length c7) (.slice xa m xc) L (X.take m) go rfl rfl M3.out.row hT.out (by simp; omega) ?_
               intro v' W1 go' h1 h2 h3
               have D5 := hide (D3.out.grown h2 M3.out.off)
               have K5 := hide (K4.out.grown h2 M3.out.new)
               have M5 := hide (M3.out.append D3.out hsz h1 h3)
               obtain ⟨a1, d1, hv1, _⟩ := h1.sl
               have hl5 : (L ++ X.take m).length = L.length + m := by simp; omega
               rw [hl5] at hv1
               subst hv1
               clear h1 h2 h3)
            | go_in)
          all_goals first | (exfalso; have := heq.out; have := Hm.out; omega) | skip
          all_goals
            go_roundw
            case rel => exact ⟨j + 1, gv, by omega, by go_num, rfl, hide ⟨_, _, own3, go', D5.out, K5.out, M5.out, by omega, by omega, by omega, by simp only [hl5]; omega, fun _ => by have := heq.out; simp only [hl5]; omega⟩⟩
            case measure => simp [intOf]; omega
      · have hjR2 : R.length ≤ j := by omega
        clear hjR
        go_wp2_with fail
        have hS3 := (hSl.out.frame K.out.old).sl
        obtain ⟨m, hm⟩ : ∃ m : Nat, (m : Int) = min (X.length : Int) (r) := ⟨(min (X.length : Int) (r)).toNat, by omega⟩
        have hmX : m ≤ X.length := by omega
        have hm0 : 0 ≤ (r) - m := by omega
        have hm1 : (r) - m + (L.length + m : Nat) = (r) + L.length := by omega
        have hmc : m ≤ xc := by omega
        refine (does_write D.out (i := 0) (x := cn3 L (r)) rfl rfl hS3 (by simp only [cn3]; omega)).mono ?_
        rintro e w3 ⟨rfl, own3, D3, K3⟩
        have em : min (X.length : Int) (cn3 L (r)).room = (m : Int) := by simp only [cn3]; omega
        rw [em] at D3 ⊢
        clear em
        replace D3 : Hid (Wd w3 W.heap.size [cn3 (L ++ X.take m) ((r) - m)] [] own3) := hide (by simpa [cn3] using D3)
        have M3 := hide (M.out.through K3)
        have K4 := hide (K.out.trans K3)
        have hsz := K4.out.fr.size
        have hT := hide (((hSl.out.frame K4.out.old).sl).take hmX)
        have Hm := hide hm
        clear D M K K3 hS3 hm
        go_wp2_with (first
          | (at_builtin; refine wpList_append_bytes rfl _ _ rfl _ (.slice a7 L.length c7) (.slice xa m xc) L (X.take m) go rfl rfl M3.out.row hT.out (by simp; omega) ?_
             intro v' W1 go' h1 h2 h3
             have D5 := hide (D3.out.grown h2 M3.out.off)
             have K5 := hide (K4.out.grown h2 M3.out.new)
             have M5 := hide (M3.out.append D3.out hsz h1 h3)
             obtain ⟨a1, d1, hv1, _⟩ := h1.sl
             have hl5 : (L ++ X.take m).length = L.length + m := by simp; omega
             rw [hl5] at hv1
             subst hv1
             clear h1 h2 h3)
          | go_in)
        all_goals first | (exfalso; have := heq.out; have := Hm.out; omega) | skip
        all_goals
          go_roundw
          case rel => exact ⟨j + 1, gv, by omega, by go_num, rfl, hide ⟨_, _, own3, go', D5.out, K5.out, M5.out, by omega, by omega, by omega, by simp only [hl5]; omega, fun _ => by have := heq.out; simp only [hl5]; omega⟩⟩
          case measure => simp [intOf]; omega
    · have ej : j = lenp := by omega
      subst ej
      have D := hide HI.wd
      have K := hide HI.kp
      have M := hide HI.mine
      have t7 := (HI.mine.row.sl.keep (W' := wr.drew) (fun _ _ _ => rfl)).text
      clear HI hst hR
      go_wp2_with fail
      have Kd : Kp own own wr wr.drew := ⟨Fr.drew _ _, fun _ _ e => e⟩
      have M2 := hide (M.out.through Kd)
      have hs12 := hide (does_sent (D.out.frame (W' := wr.drew) (Nat.le_refl _) (fun _ _ _ => rfl)) (i := 0) (x := cn3 L r) rfl)
      replace K := hide (K.out.trans Kd)
      clear Kd M D
      unfold ptr at hs12
      simp only [cn3] at hs12
      go_region_with (first
        | (go_at_call 12; refine hs12.out.mono ?_
           rintro e w6 ⟨v6, go6, rfl, R6, G6, D6, K6⟩
           have t6 := R6.sl.text
           have t8 := (M2.out.through K6).row.sl.text
           have K7 := hide (K.out.trans K6)
           clear R6 G6 D6 K6)
        | (go_at_call 17; refine (speaks_any _).mono ?_; rintro e w7 ⟨rfl, F7⟩; have F8 := hide F7; clear F7))
      all_goals go_wp2_with fail
      all_goals go_ret
      all_goals exact ⟨rfl, ((K7.out.fr.mono (T := fun _ => False) (fun _ _ e => e rfl)).trans F8.out (fun _ _ e => e)).below (Nat.le_refl _) (fun _ _ e => e)⟩
end Go.Proofs.Ytpgbpfdgbajhlaa
