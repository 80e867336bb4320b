/- YH2. -/
import Derived.Test.YtecjlcjaccijpaaGreatDoorYH1
namespace Go.Proofs.YtecjlcjaccijpaaGreatDoor
open Go.ChangeShapes Go.WideShapes Go.ChangeAt Go.RowKit
set_option linter.unusedVariables false
set_option maxHeartbeats 16000000
set_option maxRecDepth 100000
def LnOk (e : Nat) (X Y : Hx) (u : Value) (w : World) (base : Nat) : Prop := e = 0 -> X = Y /\ FRow w base u X.fs
theorem LnOk.out {e : Nat} {X Y : Hx} {u : Value} {w : World} {base : Nat} (h : LnOk e X Y u w base) (he : e = 0) : X = Y /\ FRow w base u X.fs := h he
theorem Kept.set {W W' : World} {v v' : Value} (h : Kept W W' v v') {g : Nat} (hg : W.heap.size <= g) (i : Nat) (u : Value) : Kept W (W'.setCell ⟨g, i, none⟩ u) v v' :=
 ⟨by simp; exact h.size, fun k hk hn => (Below.heap_setCell W' ⟨g, i, none⟩ u k (by simp; omega)).trans (h.block k hk hn), h.apart⟩
theorem wpList_append_fld_k {ops : Array Oper} {rest : List Oper} {o : Oper} {a : Act} {Q : Exit -> Act -> World -> Prop} (hgd : o.guard = none) (s x : Operand)
  (ho : o.op = .call { callee := .builtin .append, args := #[s, x], argTypes := #[25, 25] }) (W : World) (base : Nat) (v : Value) (A : List (ByteArray × ByteArray)) (y1 y2 : ByteArray) (hs : a.eval s = v) (hx : a.eval x = .slice (some ⟨W.heap.size, 0, none⟩) 1 1)
  (hown : FRow W base v A) (hn : A.length <= 1099511627776) (hbase : base <= W.heap.size)
  (h : ∀ v' W', FRow W' base v' (A ++ [(y1, y2)]) -> Below base W W' -> Kept W W' v v' -> wpList Tryz.prog ops Q rest (a.put o.dst v') W') : wpList Tryz.prog ops Q (o :: rest) a (W.alloc (.cells #[.string y1, .string y2] 92)) := by
 refine wpList_plain hgd fun K hK => ?_
 obtain ⟨v', W', hr, h2, h3, h4⟩ := append_fld_kh W base o.type v A (y1, y2) hown hn hbase
 unfold Oper.wp execOp
 simp only [ho, resolve, invoke, builtin, Sem.run_bind, Sem.run_pure, Result.andThen_ok, List.map_toArray, List.map_cons, List.map_nil, hs, hx, hr]
 exact hK _ _ (h v' W' h2 h3 h4)
theorem setAway {W : World} {base : Nat} {v : Value} {A : List (ByteArray × ByteArray)} {g : Nat} (h : FRow W base v A /\ v.ownBlock ≠ some g) (i : Nat) (u : Value) : FRow (W.setCell ⟨g, i, none⟩ u) base v A /\ v.ownBlock ≠ some g :=
 ⟨h.1.frame fun k hk => Below.heap_setCell W ⟨g, i, none⟩ u k (fun e => h.2 (by rw [hk, e])), h.2⟩
theorem rline_pass (X : Hx) (l : Value) (lines : Nat) (s : ByteArray) (w : World) (base : Nat) (hl : FRow w base l X.fs) (hb : base <= w.heap.size) (hln : lines <= 9007199254740992) (h1 : X.r = true) (h2 : X.me.size = 0) (h3 : X.st = 0) (h4 : s.size = 0) (h5 : lines <= 4) :
  Calls Tryz.prog 32 #[hxV X l, .int .i64 (lines : Int), .string s] w fun e w' => e = .returned (.tuple #[hxV X l, .bool false, .int .i64 0]) /\ FRow w' base l X.fs /\ Below base w w' /\ Kept w w' l l := by
 obtain ⟨la, ln, lc, rfl⟩ : ∃ a n c, l = .slice a n c := by
  obtain ⟨a, c, h, _⟩ := hl.shape
  exact ⟨a, _, c, h⟩
 have HR := hide hl
 have HBS := hide hb
 have HOW : Hid (∀ g, w.heap.size <= g -> (Value.slice la ln lc).ownBlock ≠ some g) := hide (fun g hg h => by have := (hl.lt h).2; omega)
 clear hl hb
 unfold hxV
 obtain ⟨r, me, ta, mi, st, re, A⟩ := X
 dsimp only at *
 subst h1
 subst h3
 have e1 : me.toList.isEmpty = true := by rw [Lib.toList_data, isEmpty_size]; exact decide_eq_true h2
 have e2 : s.toList.isEmpty = true := by rw [Lib.toList_data, isEmpty_size]; exact decide_eq_true h4
 have i5 : (lines : Int) <= 4 := by omega
 clear h2 h4
 go_enter Tryz.func32, Tryz.ntmps32
 go_upto_region 1 with fail
 have T0 := hide (Bl.two w #[.bool true, .string me, .string ta, .int .i64 (mi : Int), .int .i64 0, .string re, .slice la ln lc] 27 #[.bool false, .string ⟨#[]⟩, .string ⟨#[]⟩, .int .i64 0, .int .i64 0, .string ⟨#[]⟩, .slice none 0 0] 27)
 generalize ((w.alloc (.cells #[.bool true, .string me, .string ta, .int .i64 (mi : Int), .int .i64 0, .string re, .slice la ln lc] 27)).alloc (.cells #[.bool false, .string ⟨#[]⟩, .string ⟨#[]⟩, .int .i64 0, .int .i64 0, .string ⟨#[]⟩, .slice none 0 0] 27)) = x at T0 |-
 have R0 := hide (HR.out.below T0.out.b)
 have xB := hide (T0.out.b.mono HBS.out)
 obtain ⟨r0, r1, r2, r3, r4, r5, r6⟩ := T0.out.hd 0 w.heap.size rfl rfl
 obtain ⟨s0, s1, s2, s3, s4, s5, s6⟩ := T0.out.hd 1 (w.heap.size + 1) rfl rfl
 have f0 : x.frozen? ⟨w.heap.size + 1, 0, none⟩ = false := T0.out.fr 1 rfl 0
 have f1 : x.frozen? ⟨w.heap.size + 1, 1, none⟩ = false := T0.out.fr 1 rfl 1
 have f2 : x.frozen? ⟨w.heap.size + 1, 2, none⟩ = false := T0.out.fr 1 rfl 2
 have f3 : x.frozen? ⟨w.heap.size + 1, 3, none⟩ = false := T0.out.fr 1 rfl 3
 have f4 : x.frozen? ⟨w.heap.size + 1, 4, none⟩ = false := T0.out.fr 1 rfl 4
 have f5 : x.frozen? ⟨w.heap.size + 1, 5, none⟩ = false := T0.out.fr 1 rfl 5
 have f6 : x.frozen? ⟨w.heap.size + 1, 6, none⟩ = false := T0.out.fr 1 rfl 6
 go_wp2
 have TF : Hid (Bl w (((((((x.setCell ⟨w.heap.size + 1, 0, none⟩ (.bool true)).setCell ⟨w.heap.size + 1, 1, none⟩ (.string me)).setCell ⟨w.heap.size + 1, 2, none⟩ (.string ta)).setCell ⟨w.heap.size + 1, 3, none⟩ (.int .i64 (mi : Int))).setCell ⟨w.heap.size + 1, 4, none⟩ (.int .i64 0)).setCell ⟨w.heap.size + 1, 5, none⟩ (.string re)).setCell ⟨w.heap.size + 1, 6, none⟩ (.slice la ln lc)) [(#[.bool true, .string me, .string ta, .int .i64 (mi : Int), .int .i64 0, .string re, .slice la ln lc], 27), (#[.bool true, .string me, .string ta, .int .i64 (mi : Int), .int .i64 0, .string re, .slice la ln lc], 27)]) := hide (((((((T0.out.set 1 rfl 0 (.bool true)).set 1 rfl 1 (.string me)).set 1 rfl 2 (.string ta)).set 1 rfl 3 (.int .i64 (mi : Int))).set 1 rfl 4 (.int .i64 0)).set 1 rfl 5 (.string re)).set 1 rfl 6 (.slice la ln lc))
 have BF : Hid (Below base w (((((((x.setCell ⟨w.heap.size + 1, 0, none⟩ (.bool true)).setCell ⟨w.heap.size + 1, 1, none⟩ (.string me)).setCell ⟨w.heap.size + 1, 2, none⟩ (.string ta)).setCell ⟨w.heap.size + 1, 3, none⟩ (.int .i64 (mi : Int))).setCell ⟨w.heap.size + 1, 4, none⟩ (.int .i64 0)).setCell ⟨w.heap.size + 1, 5, none⟩ (.string re)).setCell ⟨w.heap.size + 1, 6, none⟩ (.slice la ln lc))) := hide ((((((((xB.out).setCell (p := ⟨w.heap.size + 1, 0, none⟩) (by have := HBS.out; simp; omega) (.bool true)).setCell (p := ⟨w.heap.size + 1, 1, none⟩) (by have := HBS.out; simp; omega) (.string me)).setCell (p := ⟨w.heap.size + 1, 2, none⟩) (by have := HBS.out; simp; omega) (.string ta)).setCell (p := ⟨w.heap.size + 1, 3, none⟩) (by have := HBS.out; simp; omega) (.int .i64 (mi : Int))).setCell (p := ⟨w.heap.size + 1, 4, none⟩) (by have := HBS.out; simp; omega) (.int .i64 0)).setCell (p := ⟨w.heap.size + 1, 5, none⟩) (by have := HBS.out; simp; omega) (.string re)).setCell (p := ⟨w.heap.size + 1, 6, none⟩) (by have := HBS.out; simp; omega) (.slice la ln lc))
 have RF := hide (setAway (setAway (setAway (setAway (setAway (setAway (setAway (And.intro R0.out (HOW.out (w.heap.size + 1) (by omega))) 0 (.bool true)) 1 (.string me)) 2 (.string ta)) 3 (.int .i64 (mi : Int))) 4 (.int .i64 0)) 5 (.string re)) 6 (.slice la ln lc))
 generalize (((((((x.setCell ⟨w.heap.size + 1, 0, none⟩ (.bool true)).setCell ⟨w.heap.size + 1, 1, none⟩ (.string me)).setCell ⟨w.heap.size + 1, 2, none⟩ (.string ta)).setCell ⟨w.heap.size + 1, 3, none⟩ (.int .i64 (mi : Int))).setCell ⟨w.heap.size + 1, 4, none⟩ (.int .i64 0)).setCell ⟨w.heap.size + 1, 5, none⟩ (.string re)).setCell ⟨w.heap.size + 1, 6, none⟩ (.slice la ln lc)) = w9 at TF BF RF |-
 clear s0 s1 s2 s3 s4 s5 s6 f0 f1 f2 f3 f4 f5 f6
 obtain ⟨k0, k1, k2, k3, k4, k5, k6⟩ := TF.out.hd 1 (w.heap.size + 1) rfl rfl
 exact bodyPost_ret (v := .tuple #[.agg #[.bool true, .string me, .string ta, .int .i64 (mi : Int), .int .i64 0, .string re, .slice la ln lc], .bool false, .int .i64 0]) (by simp [results, Tryz.results32, go_sem, k0, k1, k2, k3, k4, k5, k6]) rfl ⟨rfl, RF.out.1, BF.out, ⟨TF.out.b.size, fun k hk _ => TF.out.b.block k hk, fun _ _ h => h⟩⟩
theorem rline_whole (X : Hx) (l : Value) (lines : Nat) (s : ByteArray) (w : World) (base : Nat) (hl : FRow w base l X.fs) (hb : base <= w.heap.size) (h1 : X.me.size ≠ 0 ∨ X.st ≠ 0) (h4 : s.size = 0) :
    Calls Tryz.prog 32 #[hxV X l, .int .i64 (lines : Int), .string s] w fun e w' => e = .returned (.tuple #[hxV X l, .bool true, .int .i64 0]) /\ FRow w' base l X.fs /\ Below base w w' /\ Kept w w' l l := by
  obtain ⟨la, ln, lc, rfl⟩ : ∃ a n c, l = .slice a n c := by
    obtain ⟨a, c, h, _⟩ := hl.shape
    exact ⟨a, _, c, h⟩
  have HR := hide hl
  have HBS := hide hb
  have HOW : Hid (∀ g, w.heap.size <= g -> (Value.slice la ln lc).ownBlock ≠ some g) := hide (fun g hg h => by have := (hl.lt h).2; omega)
  clear hl hb
  unfold hxV
  obtain ⟨r, me, ta, mi, st, re, A⟩ := X
  dsimp only at *
  have e2 : s.toList.isEmpty = true := by rw [Lib.toList_data, isEmpty_size]; exact decide_eq_true h4
  clear h4
  by_cases hme : me.size = 0
  · have e1 : me.toList.isEmpty = true := by rw [Lib.toList_data, isEmpty_size]; exact decide_eq_true hme
    have hst : st ≠ 0 := by rcases h1 with h | h; · exact absurd hme h
                            · exact h
    have t1 : ((st : Int) != 0) = true := bne_iff_ne.2 (by omega)
    clear h1 hme hst
    go_enter Tryz.func32, Tryz.ntmps32
    go_upto_region 1 with fail
    have T0 := hide (Bl.two w #[.bool r, .string me, .string ta, .int .i64 (mi : Int), .int .i64 (st : Int), .string re, .slice la ln lc] 27 #[.bool false, .string ⟨#[]⟩, .string ⟨#[]⟩, .int .i64 0, .int .i64 0, .string ⟨#[]⟩, .slice none 0 0] 27)
    generalize ((w.alloc (.cells #[.bool r, .string me, .string ta, .int .i64 (mi : Int), .int .i64 (st : Int), .string re, .slice la ln lc] 27)).alloc (.cells #[.bool false, .string ⟨#[]⟩, .string ⟨#[]⟩, .int .i64 0, .int .i64 0, .string ⟨#[]⟩, .slice none 0 0] 27)) = x at T0 |-
    have R0 := hide (HR.out.below T0.out.b)
    have xB := hide (T0.out.b.mono HBS.out)
    obtain ⟨r0, r1, r2, r3, r4, r5, r6⟩ := T0.out.hd 0 w.heap.size rfl rfl
    obtain ⟨s0, s1, s2, s3, s4, s5, s6⟩ := T0.out.hd 1 (w.heap.size + 1) rfl rfl
    have f0 : x.frozen? ⟨w.heap.size + 1, 0, none⟩ = false := T0.out.fr 1 rfl 0
    have f1 : x.frozen? ⟨w.heap.size + 1, 1, none⟩ = false := T0.out.fr 1 rfl 1
    have f2 : x.frozen? ⟨w.heap.size + 1, 2, none⟩ = false := T0.out.fr 1 rfl 2
    have f3 : x.frozen? ⟨w.heap.size + 1, 3, none⟩ = false := T0.out.fr 1 rfl 3
    have f4 : x.frozen? ⟨w.heap.size + 1, 4, none⟩ = false := T0.out.fr 1 rfl 4
    have f5 : x.frozen? ⟨w.heap.size + 1, 5, none⟩ = false := T0.out.fr 1 rfl 5
    have f6 : x.frozen? ⟨w.heap.size + 1, 6, none⟩ = false := T0.out.fr 1 rfl 6
    go_wp2
    have TF : Hid (Bl w (((((((x.setCell ⟨w.heap.size + 1, 0, none⟩ (.bool r)).setCell ⟨w.heap.size + 1, 1, none⟩ (.string me)).setCell ⟨w.heap.size + 1, 2, none⟩ (.string ta)).setCell ⟨w.heap.size + 1, 3, none⟩ (.int .i64 (mi : Int))).setCell ⟨w.heap.size + 1, 4, none⟩ (.int .i64 (st : Int))).setCell ⟨w.heap.size + 1, 5, none⟩ (.string re)).setCell ⟨w.heap.size + 1, 6, none⟩ (.slice la ln lc)) [(#[.bool r, .string me, .string ta, .int .i64 (mi : Int), .int .i64 (st : Int), .string re, .slice la ln lc], 27), (#[.bool r, .string me, .string ta, .int .i64 (mi : Int), .int .i64 (st : Int), .string re, .slice la ln lc], 27)]) := hide (((((((T0.out.set 1 rfl 0 (.bool r)).set 1 rfl 1 (.string me)).set 1 rfl 2 (.string ta)).set 1 rfl 3 (.int .i64 (mi : Int))).set 1 rfl 4 (.int .i64 (st : Int))).set 1 rfl 5 (.string re)).set 1 rfl 6 (.slice la ln lc))
    have BF : Hid (Below base w (((((((x.setCell ⟨w.heap.size + 1, 0, none⟩ (.bool r)).setCell ⟨w.heap.size + 1, 1, none⟩ (.string me)).setCell ⟨w.heap.size + 1, 2, none⟩ (.string ta)).setCell ⟨w.heap.size + 1, 3, none⟩ (.int .i64 (mi : Int))).setCell ⟨w.heap.size + 1, 4, none⟩ (.int .i64 (st : Int))).setCell ⟨w.heap.size + 1, 5, none⟩ (.string re)).setCell ⟨w.heap.size + 1, 6, none⟩ (.slice la ln lc))) := hide ((((((((xB.out).setCell (p := ⟨w.heap.size + 1, 0, none⟩) (by have := HBS.out; simp; omega) (.bool r)).setCell (p := ⟨w.heap.size + 1, 1, none⟩) (by have := HBS.out; simp; omega) (.string me)).setCell (p := ⟨w.heap.size + 1, 2, none⟩) (by have := HBS.out; simp; omega) (.string ta)).setCell (p := ⟨w.heap.size + 1, 3, none⟩) (by have := HBS.out; simp; omega) (.int .i64 (mi : Int))).setCell (p := ⟨w.heap.size + 1, 4, none⟩) (by have := HBS.out; simp; omega) (.int .i64 (st : Int))).setCell (p := ⟨w.heap.size + 1, 5, none⟩) (by have := HBS.out; simp; omega) (.string re)).setCell (p := ⟨w.heap.size + 1, 6, none⟩) (by have := HBS.out; simp; omega) (.slice la ln lc))
    have RF := hide (setAway (setAway (setAway (setAway (setAway (setAway (setAway (And.intro R0.out (HOW.out (w.heap.size + 1) (by omega))) 0 (.bool r)) 1 (.string me)) 2 (.string ta)) 3 (.int .i64 (mi : Int))) 4 (.int .i64 (st : Int))) 5 (.string re)) 6 (.slice la ln lc))
    generalize (((((((x.setCell ⟨w.heap.size + 1, 0, none⟩ (.bool r)).setCell ⟨w.heap.size + 1, 1, none⟩ (.string me)).setCell ⟨w.heap.size + 1, 2, none⟩ (.string ta)).setCell ⟨w.heap.size + 1, 3, none⟩ (.int .i64 (mi : Int))).setCell ⟨w.heap.size + 1, 4, none⟩ (.int .i64 (st : Int))).setCell ⟨w.heap.size + 1, 5, none⟩ (.string re)).setCell ⟨w.heap.size + 1, 6, none⟩ (.slice la ln lc)) = w9 at TF BF RF |-
    clear s0 s1 s2 s3 s4 s5 s6 f0 f1 f2 f3 f4 f5 f6
    obtain ⟨k0, k1, k2, k3, k4, k5, k6⟩ := TF.out.hd 1 (w.heap.size + 1) rfl rfl
    exact bodyPost_ret (v := .tuple #[.agg #[.bool r, .string me, .string ta, .int .i64 (mi : Int), .int .i64 (st : Int), .string re, .slice la ln lc], .bool true, .int .i64 0]) (by simp [results, Tryz.results32, go_sem, k0, k1, k2, k3, k4, k5, k6]) rfl ⟨rfl, RF.out.1, BF.out, ⟨TF.out.b.size, fun k hk _ => TF.out.b.block k hk, fun _ _ h => h⟩⟩
  · have e1 : me.toList.isEmpty = false := by rw [Lib.toList_data, isEmpty_size]; exact decide_eq_false hme
    clear h1 hme
    go_enter Tryz.func32, Tryz.ntmps32
    go_upto_region 1 with fail
    have T0 := hide (Bl.two w #[.bool r, .string me, .string ta, .int .i64 (mi : Int), .int .i64 (st : Int), .string re, .slice la ln lc] 27 #[.bool false, .string ⟨#[]⟩, .string ⟨#[]⟩, .int .i64 0, .int .i64 0, .string ⟨#[]⟩, .slice none 0 0] 27)
    generalize ((w.alloc (.cells #[.bool r, .string me, .string ta, .int .i64 (mi : Int), .int .i64 (st : Int), .string re, .slice la ln lc] 27)).alloc (.cells #[.bool false, .string ⟨#[]⟩, .string ⟨#[]⟩, .int .i64 0, .int .i64 0, .string ⟨#[]⟩, .slice none 0 0] 27)) = x at T0 |-
    have R0 := hide (HR.out.below T0.out.b)
    have xB := hide (T0.out.b.mono HBS.out)
    obtain ⟨r0, r1, r2, r3, r4, r5, r6⟩ := T0.out.hd 0 w.heap.size rfl rfl
    obtain ⟨s0, s1, s2, s3, s4, s5, s6⟩ := T0.out.hd 1 (w.heap.size + 1) rfl rfl
    have f0 : x.frozen? ⟨w.heap.size + 1, 0, none⟩ = false := T0.out.fr 1 rfl 0
    have f1 : x.frozen? ⟨w.heap.size + 1, 1, none⟩ = false := T0.out.fr 1 rfl 1
    have f2 : x.frozen? ⟨w.heap.size + 1, 2, none⟩ = false := T0.out.fr 1 rfl 2
    have f3 : x.frozen? ⟨w.heap.size + 1, 3, none⟩ = false := T0.out.fr 1 rfl 3
    have f4 : x.frozen? ⟨w.heap.size + 1, 4, none⟩ = false := T0.out.fr 1 rfl 4
    have f5 : x.frozen? ⟨w.heap.size + 1, 5, none⟩ = false := T0.out.fr 1 rfl 5
    have f6 : x.frozen? ⟨w.heap.size + 1, 6, none⟩ = false := T0.out.fr 1 rfl 6
    go_wp2
    have TF : Hid (Bl w (((((((x.setCell ⟨w.heap.size + 1, 0, none⟩ (.bool r)).setCell ⟨w.heap.size + 1, 1, none⟩ (.string me)).setCell ⟨w.heap.size + 1, 2, none⟩ (.string ta)).setCell ⟨w.heap.size + 1, 3, none⟩ (.int .i64 (mi : Int))).setCell ⟨w.heap.size + 1, 4, none⟩ (.int .i64 (st : Int))).setCell ⟨w.heap.size + 1, 5, none⟩ (.string re)).setCell ⟨w.heap.size + 1, 6, none⟩ (.slice la ln lc)) [(#[.bool r, .string me, .string ta, .int .i64 (mi : Int), .int .i64 (st : Int), .string re, .slice la ln lc], 27), (#[.bool r, .string me, .string ta, .int .i64 (mi : Int), .int .i64 (st : Int), .string re, .slice la ln lc], 27)]) := hide (((((((T0.out.set 1 rfl 0 (.bool r)).set 1 rfl 1 (.string me)).set 1 rfl 2 (.string ta)).set 1 rfl 3 (.int .i64 (mi : Int))).set 1 rfl 4 (.int .i64 (st : Int))).set 1 rfl 5 (.string re)).set 1 rfl 6 (.slice la ln lc))
    have BF : Hid (Below base w (((((((x.setCell ⟨w.heap.size + 1, 0, none⟩ (.bool r)).setCell ⟨w.heap.size + 1, 1, none⟩ (.string me)).setCell ⟨w.heap.size + 1, 2, none⟩ (.string ta)).setCell ⟨w.heap.size + 1, 3, none⟩ (.int .i64 (mi : Int))).setCell ⟨w.heap.size + 1, 4, none⟩ (.int .i64 (st : Int))).setCell ⟨w.heap.size + 1, 5, none⟩ (.string re)).setCell ⟨w.heap.size + 1, 6, none⟩ (.slice la ln lc))) := hide ((((((((xB.out).setCell (p := ⟨w.heap.size + 1, 0, none⟩) (by have := HBS.out; simp; omega) (.bool r)).setCell (p := ⟨w.heap.size + 1, 1, none⟩) (by have := HBS.out; simp; omega) (.string me)).setCell (p := ⟨w.heap.size + 1, 2, none⟩) (by have := HBS.out; simp; omega) (.string ta)).setCell (p := ⟨w.heap.size + 1, 3, none⟩) (by have := HBS.out; simp; omega) (.int .i64 (mi : Int))).setCell (p := ⟨w.heap.size + 1, 4, none⟩) (by have := HBS.out; simp; omega) (.int .i64 (st : Int))).setCell (p := ⟨w.heap.size + 1, 5, none⟩) (by have := HBS.out; simp; omega) (.string re)).setCell (p := ⟨w.heap.size + 1, 6, none⟩) (by have := HBS.out; simp; omega) (.slice la ln lc))
    have RF := hide (setAway (setAway (setAway (setAway (setAway (setAway (setAway (And.intro R0.out (HOW.out (w.heap.size + 1) (by omega))) 0 (.bool r)) 1 (.string me)) 2 (.string ta)) 3 (.int .i64 (mi : Int))) 4 (.int .i64 (st : Int))) 5 (.string re)) 6 (.slice la ln lc))
    generalize (((((((x.setCell ⟨w.heap.size + 1, 0, none⟩ (.bool r)).setCell ⟨w.heap.size + 1, 1, none⟩ (.string me)).setCell ⟨w.heap.size + 1, 2, none⟩ (.string ta)).setCell ⟨w.heap.size + 1, 3, none⟩ (.int .i64 (mi : Int))).setCell ⟨w.heap.size + 1, 4, none⟩ (.int .i64 (st : Int))).setCell ⟨w.heap.size + 1, 5, none⟩ (.string re)).setCell ⟨w.heap.size + 1, 6, none⟩ (.slice la ln lc)) = w9 at TF BF RF |-
    clear s0 s1 s2 s3 s4 s5 s6 f0 f1 f2 f3 f4 f5 f6
    obtain ⟨k0, k1, k2, k3, k4, k5, k6⟩ := TF.out.hd 1 (w.heap.size + 1) rfl rfl
    exact bodyPost_ret (v := .tuple #[.agg #[.bool r, .string me, .string ta, .int .i64 (mi : Int), .int .i64 (st : Int), .string re, .slice la ln lc], .bool true, .int .i64 0]) (by simp [results, Tryz.results32, go_sem, k0, k1, k2, k3, k4, k5, k6]) rfl ⟨rfl, RF.out.1, BF.out, ⟨TF.out.b.size, fun k hk _ => TF.out.b.block k hk, fun _ _ h => h⟩⟩
theorem rline_first (X : Hx) (l : Value) (lines : Nat) (s : ByteArray) (w : World) (base : Nat) (hl : FRow w base l X.fs) (hb : base <= w.heap.size) (hs : s.size <= 8192) (hln : lines <= 9007199254740992) (h2 : X.me.size = 0) (h3 : X.st = 0) (h4 : ¬ (X.r = true /\ s.size = 0 /\ lines <= 4)) :
  Calls Tryz.prog 32 #[hxV X l, .int .i64 (lines : Int), .string s] w fun e w' => ∃ Y, e = .returned (.tuple #[hxV Y (.slice none 0 0), .bool false, .int .i64 (frE X.r s : Nat)]) /\ FrOk (frE X.r s) Y (frH X.r s) /\ Below base w w' /\ Kept w w' l (.slice none 0 0) := by
 obtain ⟨la, ln, lc, rfl⟩ : ∃ a n c, l = .slice a n c := by
  obtain ⟨a, c, h, _⟩ := hl.shape
  exact ⟨a, _, c, h⟩
 have HR := hide hl
 have HBS := hide hb
 have HOW : Hid (∀ g, w.heap.size <= g -> (Value.slice la ln lc).ownBlock ≠ some g) := hide (fun g hg h => by have := (hl.lt h).2; omega)
 clear hl hb
 unfold hxV
 obtain ⟨r, me, ta, mi, st, re, A⟩ := X
 dsimp only at *
 subst h3
 have HF := hide (fun W => (show Calls Tryz.prog 46 #[.bool r, .string s] W fun e w' => ∃ X, e = .returned (.tuple #[hxV X (.slice none 0 0), .int .i64 (frE r s : Nat)]) /\ FrOk (frE r s) X (frH r s) /\ Below W.heap.size W w' from by cases r with | true => exact rfirst_req s W hs | false => exact rfirst_res s W hs))
 have e1 : me.toList.isEmpty = true := by rw [Lib.toList_data, isEmpty_size]; exact decide_eq_true h2
 generalize frE r s = fe at HF
 generalize frH r s = fh at HF
 clear h2
 have key : Hid (∀ (x : World), Bl w x [(#[.bool r, .string me, .string ta, .int .i64 (mi : Int), .int .i64 0, .string re, .slice la ln lc], 27), (#[.bool false, .string ⟨#[]⟩, .string ⟨#[]⟩, .int .i64 0, .int .i64 0, .string ⟨#[]⟩, .slice none 0 0], 27)] -> Below base w x -> True) := hide (fun _ _ _ => trivial)
 clear key
 cases r with
 | false =>
  go_enter Tryz.func32, Tryz.ntmps32
  go_upto_region 1 with fail
  have T0 := hide (Bl.two w #[.bool false, .string me, .string ta, .int .i64 (mi : Int), .int .i64 0, .string re, .slice la ln lc] 27 #[.bool false, .string ⟨#[]⟩, .string ⟨#[]⟩, .int .i64 0, .int .i64 0, .string ⟨#[]⟩, .slice none 0 0] 27)
  generalize ((w.alloc (.cells #[.bool false, .string me, .string ta, .int .i64 (mi : Int), .int .i64 0, .string re, .slice la ln lc] 27)).alloc (.cells #[.bool false, .string ⟨#[]⟩, .string ⟨#[]⟩, .int .i64 0, .int .i64 0, .string ⟨#[]⟩, .slice none 0 0] 27)) = x at T0 |-
  have R0 := hide (HR.out.below T0.out.b)
  have xB := hide (T0.out.b.mono HBS.out)
  obtain ⟨r0, r1, r2, r3, r4, r5, r6⟩ := T0.out.hd 0 w.heap.size rfl rfl
  go_wp2_with fail
  refine (HF.out x).mono ?_
  rintro e w1 ⟨Y, rfl, hY, bb⟩
  have T1 := hide (T0.out.below bb)
  have w1B := hide (xB.out.trans (bb.mono (Nat.le_trans HBS.out T0.out.b.size)))
  have HY := hide hY
  clear bb hY r0 r1 r2 r3 r4 r5 r6 T0 xB
  unfold hxV
  obtain ⟨xr, xme, xta, xmi, xst, xre, XA⟩ := Y
  dsimp only
  go_upto_region 6 with fail
  have D2 := hide (Bl.one w1 #[.bool xr, .string xme, .string xta, .int .i64 (xmi : Int), .int .i64 (xst : Int), .string xre, .slice none 0 0] 27)
  have T2 := hide (T1.out.below D2.out.b)
  have yB := hide (w1B.out.trans (D2.out.b.mono (Nat.le_trans HBS.out T1.out.b.size)))
  generalize (w1.alloc (.cells #[.bool xr, .string xme, .string xta, .int .i64 (xmi : Int), .int .i64 (xst : Int), .string xre, .slice none 0 0] 27)) = y at T2 D2 yB |-
  obtain ⟨q0, q1, q2, q3, q4, q5, q6⟩ := D2.out.hd 0 w1.heap.size rfl rfl
  obtain ⟨s0, s1, s2, s3, s4, s5, s6⟩ := T2.out.hd 1 (w.heap.size + 1) rfl rfl
  have f0 : y.frozen? ⟨w.heap.size + 1, 0, none⟩ = false := T2.out.fr 1 rfl 0
  have f1 : y.frozen? ⟨w.heap.size + 1, 1, none⟩ = false := T2.out.fr 1 rfl 1
  have f2 : y.frozen? ⟨w.heap.size + 1, 2, none⟩ = false := T2.out.fr 1 rfl 2
  have f3 : y.frozen? ⟨w.heap.size + 1, 3, none⟩ = false := T2.out.fr 1 rfl 3
  have f4 : y.frozen? ⟨w.heap.size + 1, 4, none⟩ = false := T2.out.fr 1 rfl 4
  have f5 : y.frozen? ⟨w.heap.size + 1, 5, none⟩ = false := T2.out.fr 1 rfl 5
  have f6 : y.frozen? ⟨w.heap.size + 1, 6, none⟩ = false := T2.out.fr 1 rfl 6
  go_wp2
  have TF : Hid (Bl w (((((((y.setCell ⟨w.heap.size + 1, 0, none⟩ (.bool xr)).setCell ⟨w.heap.size + 1, 1, none⟩ (.string xme)).setCell ⟨w.heap.size + 1, 2, none⟩ (.string xta)).setCell ⟨w.heap.size + 1, 3, none⟩ (.int .i64 (xmi : Int))).setCell ⟨w.heap.size + 1, 4, none⟩ (.int .i64 (xst : Int))).setCell ⟨w.heap.size + 1, 5, none⟩ (.string xre)).setCell ⟨w.heap.size + 1, 6, none⟩ (.slice none 0 0)) [(#[.bool false, .string me, .string ta, .int .i64 (mi : Int), .int .i64 0, .string re, .slice la ln lc], 27), (#[.bool xr, .string xme, .string xta, .int .i64 (xmi : Int), .int .i64 (xst : Int), .string xre, .slice none 0 0], 27)]) := hide (((((((T2.out.set 1 rfl 0 (.bool xr)).set 1 rfl 1 (.string xme)).set 1 rfl 2 (.string xta)).set 1 rfl 3 (.int .i64 (xmi : Int))).set 1 rfl 4 (.int .i64 (xst : Int))).set 1 rfl 5 (.string xre)).set 1 rfl 6 (.slice none 0 0))
  have BF : Hid (Below base w (((((((y.setCell ⟨w.heap.size + 1, 0, none⟩ (.bool xr)).setCell ⟨w.heap.size + 1, 1, none⟩ (.string xme)).setCell ⟨w.heap.size + 1, 2, none⟩ (.string xta)).setCell ⟨w.heap.size + 1, 3, none⟩ (.int .i64 (xmi : Int))).setCell ⟨w.heap.size + 1, 4, none⟩ (.int .i64 (xst : Int))).setCell ⟨w.heap.size + 1, 5, none⟩ (.string xre)).setCell ⟨w.heap.size + 1, 6, none⟩ (.slice none 0 0))) := hide ((((((((yB.out).setCell (p := ⟨w.heap.size + 1, 0, none⟩) (by have := HBS.out; simp; omega) (.bool xr)).setCell (p := ⟨w.heap.size + 1, 1, none⟩) (by have := HBS.out; simp; omega) (.string xme)).setCell (p := ⟨w.heap.size + 1, 2, none⟩) (by have := HBS.out; simp; omega) (.string xta)).setCell (p := ⟨w.heap.size + 1, 3, none⟩) (by have := HBS.out; simp; omega) (.int .i64 (xmi : Int))).setCell (p := ⟨w.heap.size + 1, 4, none⟩) (by have := HBS.out; simp; omega) (.int .i64 (xst : Int))).setCell (p := ⟨w.heap.size + 1, 5, none⟩) (by have := HBS.out; simp; omega) (.string xre)).setCell (p := ⟨w.heap.size + 1, 6, none⟩) (by have := HBS.out; simp; omega) (.slice none 0 0))
  generalize (((((((y.setCell ⟨w.heap.size + 1, 0, none⟩ (.bool xr)).setCell ⟨w.heap.size + 1, 1, none⟩ (.string xme)).setCell ⟨w.heap.size + 1, 2, none⟩ (.string xta)).setCell ⟨w.heap.size + 1, 3, none⟩ (.int .i64 (xmi : Int))).setCell ⟨w.heap.size + 1, 4, none⟩ (.int .i64 (xst : Int))).setCell ⟨w.heap.size + 1, 5, none⟩ (.string xre)).setCell ⟨w.heap.size + 1, 6, none⟩ (.slice none 0 0)) = w9 at TF BF |-
  clear s0 s1 s2 s3 s4 s5 s6 f0 f1 f2 f3 f4 f5 f6
  obtain ⟨k0, k1, k2, k3, k4, k5, k6⟩ := TF.out.hd 1 (w.heap.size + 1) rfl rfl
  exact bodyPost_ret (v := .tuple #[.agg #[.bool xr, .string xme, .string xta, .int .i64 (xmi : Int), .int .i64 (xst : Int), .string xre, .slice none 0 0], .bool false, .int .i64 (fe : Int)]) (by simp [results, Tryz.results32, go_sem, k0, k1, k2, k3, k4, k5, k6]) rfl ⟨⟨xr, xme, xta, xmi, xst, xre, XA⟩, rfl, HY.out, BF.out, ⟨TF.out.b.size, fun k hk _ => TF.out.b.block k hk, fun _ _ _ h => by cases h⟩⟩
 | true =>
  by_cases h5 : s.size = 0
  ·have e2 : s.toList.isEmpty = true := by rw [Lib.toList_data, isEmpty_size]; exact decide_eq_true h5
   have i6 : ¬ (lines : Int) <= 4 := by
    have h6 : ¬ lines <= 4 := fun h => h4 ⟨rfl, h5, h⟩
    omega
   clear h4 h5
   go_enter Tryz.func32, Tryz.ntmps32
   go_upto_region 1 with fail
   have T0 := hide (Bl.two w #[.bool true, .string me, .string ta, .int .i64 (mi : Int), .int .i64 0, .string re, .slice la ln lc] 27 #[.bool false, .string ⟨#[]⟩, .string ⟨#[]⟩, .int .i64 0, .int .i64 0, .string ⟨#[]⟩, .slice none 0 0] 27)
   generalize ((w.alloc (.cells #[.bool true, .string me, .string ta, .int .i64 (mi : Int), .int .i64 0, .string re, .slice la ln lc] 27)).alloc (.cells #[.bool false, .string ⟨#[]⟩, .string ⟨#[]⟩, .int .i64 0, .int .i64 0, .string ⟨#[]⟩, .slice none 0 0] 27)) = x at T0 |-
   have R0 := hide (HR.out.below T0.out.b)
   have xB := hide (T0.out.b.mono HBS.out)
   obtain ⟨r0, r1, r2, r3, r4, r5, r6⟩ := T0.out.hd 0 w.heap.size rfl rfl
   go_wp2_with fail
   refine (HF.out x).mono ?_
   rintro e w1 ⟨Y, rfl, hY, bb⟩
   have T1 := hide (T0.out.below bb)
   have w1B := hide (xB.out.trans (bb.mono (Nat.le_trans HBS.out T0.out.b.size)))
   have HY := hide hY
   clear bb hY r0 r1 r2 r3 r4 r5 r6 T0 xB
   unfold hxV
   obtain ⟨xr, xme, xta, xmi, xst, xre, XA⟩ := Y
   dsimp only
   go_upto_region 6 with fail
   have D2 := hide (Bl.one w1 #[.bool xr, .string xme, .string xta, .int .i64 (xmi : Int), .int .i64 (xst : Int), .string xre, .slice none 0 0] 27)
   have T2 := hide (T1.out.below D2.out.b)
   have yB := hide (w1B.out.trans (D2.out.b.mono (Nat.le_trans HBS.out T1.out.b.size)))
   generalize (w1.alloc (.cells #[.bool xr, .string xme, .string xta, .int .i64 (xmi : Int), .int .i64 (xst : Int), .string xre, .slice none 0 0] 27)) = y at T2 D2 yB |-
   obtain ⟨q0, q1, q2, q3, q4, q5, q6⟩ := D2.out.hd 0 w1.heap.size rfl rfl
   obtain ⟨s0, s1, s2, s3, s4, s5, s6⟩ := T2.out.hd 1 (w.heap.size + 1) rfl rfl
   have f0 : y.frozen? ⟨w.heap.size + 1, 0, none⟩ = false := T2.out.fr 1 rfl 0
   have f1 : y.frozen? ⟨w.heap.size + 1, 1, none⟩ = false := T2.out.fr 1 rfl 1
   have f2 : y.frozen? ⟨w.heap.size + 1, 2, none⟩ = false := T2.out.fr 1 rfl 2
   have f3 : y.frozen? ⟨w.heap.size + 1, 3, none⟩ = false := T2.out.fr 1 rfl 3
   have f4 : y.frozen? ⟨w.heap.size + 1, 4, none⟩ = false := T2.out.fr 1 rfl 4
   have f5 : y.frozen? ⟨w.heap.size + 1, 5, none⟩ = false := T2.out.fr 1 rfl 5
   have f6 : y.frozen? ⟨w.heap.size + 1, 6, none⟩ = false := T2.out.fr 1 rfl 6
   go_wp2
   have TF : Hid (Bl w (((((((y.setCell ⟨w.heap.size + 1, 0, none⟩ (.bool xr)).setCell ⟨w.heap.size + 1, 1, none⟩ (.string xme)).setCell ⟨w.heap.size + 1, 2, none⟩ (.string xta)).setCell ⟨w.heap.size + 1, 3, none⟩ (.int .i64 (xmi : Int))).setCell ⟨w.heap.size + 1, 4, none⟩ (.int .i64 (xst : Int))).setCell ⟨w.heap.size + 1, 5, none⟩ (.string xre)).setCell ⟨w.heap.size + 1, 6, none⟩ (.slice none 0 0)) [(#[.bool true, .string me, .string ta, .int .i64 (mi : Int), .int .i64 0, .string re, .slice la ln lc], 27), (#[.bool xr, .string xme, .string xta, .int .i64 (xmi : Int), .int .i64 (xst : Int), .string xre, .slice none 0 0], 27)]) := hide (((((((T2.out.set 1 rfl 0 (.bool xr)).set 1 rfl 1 (.string xme)).set 1 rfl 2 (.string xta)).set 1 rfl 3 (.int .i64 (xmi : Int))).set 1 rfl 4 (.int .i64 (xst : Int))).set 1 rfl 5 (.string xre)).set 1 rfl 6 (.slice none 0 0))
   have BF : Hid (Below base w (((((((y.setCell ⟨w.heap.size + 1, 0, none⟩ (.bool xr)).setCell ⟨w.heap.size + 1, 1, none⟩ (.string xme)).setCell ⟨w.heap.size + 1, 2, none⟩ (.string xta)).setCell ⟨w.heap.size + 1, 3, none⟩ (.int .i64 (xmi : Int))).setCell ⟨w.heap.size + 1, 4, none⟩ (.int .i64 (xst : Int))).setCell ⟨w.heap.size + 1, 5, none⟩ (.string xre)).setCell ⟨w.heap.size + 1, 6, none⟩ (.slice none 0 0))) := hide ((((((((yB.out).setCell (p := ⟨w.heap.size + 1, 0, none⟩) (by have := HBS.out; simp; omega) (.bool xr)).setCell (p := ⟨w.heap.size + 1, 1, none⟩) (by have := HBS.out; simp; omega) (.string xme)).setCell (p := ⟨w.heap.size + 1, 2, none⟩) (by have := HBS.out; simp; omega) (.string xta)).setCell (p := ⟨w.heap.size + 1, 3, none⟩) (by have := HBS.out; simp; omega) (.int .i64 (xmi : Int))).setCell (p := ⟨w.heap.size + 1, 4, none⟩) (by have := HBS.out; simp; omega) (.int .i64 (xst : Int))).setCell (p := ⟨w.heap.size + 1, 5, none⟩) (by have := HBS.out; simp; omega) (.string xre)).setCell (p := ⟨w.heap.size + 1, 6, none⟩) (by have := HBS.out; simp; omega) (.slice none 0 0))
   generalize (((((((y.setCell ⟨w.heap.size + 1, 0, none⟩ (.bool xr)).setCell ⟨w.heap.size + 1, 1, none⟩ (.string xme)).setCell ⟨w.heap.size + 1, 2, none⟩ (.string xta)).setCell ⟨w.heap.size + 1, 3, none⟩ (.int .i64 (xmi : Int))).setCell ⟨w.heap.size + 1, 4, none⟩ (.int .i64 (xst : Int))).setCell ⟨w.heap.size + 1, 5, none⟩ (.string xre)).setCell ⟨w.heap.size + 1, 6, none⟩ (.slice none 0 0)) = w9 at TF BF |-
   clear s0 s1 s2 s3 s4 s5 s6 f0 f1 f2 f3 f4 f5 f6
   obtain ⟨k0, k1, k2, k3, k4, k5, k6⟩ := TF.out.hd 1 (w.heap.size + 1) rfl rfl
   exact bodyPost_ret (v := .tuple #[.agg #[.bool xr, .string xme, .string xta, .int .i64 (xmi : Int), .int .i64 (xst : Int), .string xre, .slice none 0 0], .bool false, .int .i64 (fe : Int)]) (by simp [results, Tryz.results32, go_sem, k0, k1, k2, k3, k4, k5, k6]) rfl ⟨⟨xr, xme, xta, xmi, xst, xre, XA⟩, rfl, HY.out, BF.out, ⟨TF.out.b.size, fun k hk _ => TF.out.b.block k hk, fun _ _ _ h => by cases h⟩⟩
  ·have e2 : s.toList.isEmpty = false := by rw [Lib.toList_data, isEmpty_size]; exact decide_eq_false h5
   clear h4 h5
   go_enter Tryz.func32, Tryz.ntmps32
   go_upto_region 1 with fail
   have T0 := hide (Bl.two w #[.bool true, .string me, .string ta, .int .i64 (mi : Int), .int .i64 0, .string re, .slice la ln lc] 27 #[.bool false, .string ⟨#[]⟩, .string ⟨#[]⟩, .int .i64 0, .int .i64 0, .string ⟨#[]⟩, .slice none 0 0] 27)
   generalize ((w.alloc (.cells #[.bool true, .string me, .string ta, .int .i64 (mi : Int), .int .i64 0, .string re, .slice la ln lc] 27)).alloc (.cells #[.bool false, .string ⟨#[]⟩, .string ⟨#[]⟩, .int .i64 0, .int .i64 0, .string ⟨#[]⟩, .slice none 0 0] 27)) = x at T0 |-
   have R0 := hide (HR.out.below T0.out.b)
   have xB := hide (T0.out.b.mono HBS.out)
   obtain ⟨r0, r1, r2, r3, r4, r5, r6⟩ := T0.out.hd 0 w.heap.size rfl rfl
   go_wp2_with fail
   refine (HF.out x).mono ?_
   rintro e w1 ⟨Y, rfl, hY, bb⟩
   have T1 := hide (T0.out.below bb)
   have w1B := hide (xB.out.trans (bb.mono (Nat.le_trans HBS.out T0.out.b.size)))
   have HY := hide hY
   clear bb hY r0 r1 r2 r3 r4 r5 r6 T0 xB
   unfold hxV
   obtain ⟨xr, xme, xta, xmi, xst, xre, XA⟩ := Y
   dsimp only
   go_upto_region 6 with fail
   have D2 := hide (Bl.one w1 #[.bool xr, .string xme, .string xta, .int .i64 (xmi : Int), .int .i64 (xst : Int), .string xre, .slice none 0 0] 27)
   have T2 := hide (T1.out.below D2.out.b)
   have yB := hide (w1B.out.trans (D2.out.b.mono (Nat.le_trans HBS.out T1.out.b.size)))
   generalize (w1.alloc (.cells #[.bool xr, .string xme, .string xta, .int .i64 (xmi : Int), .int .i64 (xst : Int), .string xre, .slice none 0 0] 27)) = y at T2 D2 yB |-
   obtain ⟨q0, q1, q2, q3, q4, q5, q6⟩ := D2.out.hd 0 w1.heap.size rfl rfl
   obtain ⟨s0, s1, s2, s3, s4, s5, s6⟩ := T2.out.hd 1 (w.heap.size + 1) rfl rfl
   have f0 : y.frozen? ⟨w.heap.size + 1, 0, none⟩ = false := T2.out.fr 1 rfl 0
   have f1 : y.frozen? ⟨w.heap.size + 1, 1, none⟩ = false := T2.out.fr 1 rfl 1
   have f2 : y.frozen? ⟨w.heap.size + 1, 2, none⟩ = false := T2.out.fr 1 rfl 2
   have f3 : y.frozen? ⟨w.heap.size + 1, 3, none⟩ = false := T2.out.fr 1 rfl 3
   have f4 : y.frozen? ⟨w.heap.size + 1, 4, none⟩ = false := T2.out.fr 1 rfl 4
   have f5 : y.frozen? ⟨w.heap.size + 1, 5, none⟩ = false := T2.out.fr 1 rfl 5
   have f6 : y.frozen? ⟨w.heap.size + 1, 6, none⟩ = false := T2.out.fr 1 rfl 6
   go_wp2
   have TF : Hid (Bl w (((((((y.setCell ⟨w.heap.size + 1, 0, none⟩ (.bool xr)).setCell ⟨w.heap.size + 1, 1, none⟩ (.string xme)).setCell ⟨w.heap.size + 1, 2, none⟩ (.string xta)).setCell ⟨w.heap.size + 1, 3, none⟩ (.int .i64 (xmi : Int))).setCell ⟨w.heap.size + 1, 4, none⟩ (.int .i64 (xst : Int))).setCell ⟨w.heap.size + 1, 5, none⟩ (.string xre)).setCell ⟨w.heap.size + 1, 6, none⟩ (.slice none 0 0)) [(#[.bool true, .string me, .string ta, .int .i64 (mi : Int), .int .i64 0, .string re, .slice la ln lc], 27), (#[.bool xr, .string xme, .string xta, .int .i64 (xmi : Int), .int .i64 (xst : Int), .string xre, .slice none 0 0], 27)]) := hide (((((((T2.out.set 1 rfl 0 (.bool xr)).set 1 rfl 1 (.string xme)).set 1 rfl 2 (.string xta)).set 1 rfl 3 (.int .i64 (xmi : Int))).set 1 rfl 4 (.int .i64 (xst : Int))).set 1 rfl 5 (.string xre)).set 1 rfl 6 (.slice none 0 0))
   have BF : Hid (Below base w (((((((y.setCell ⟨w.heap.size + 1, 0, none⟩ (.bool xr)).setCell ⟨w.heap.size + 1, 1, none⟩ (.string xme)).setCell ⟨w.heap.size + 1, 2, none⟩ (.string xta)).setCell ⟨w.heap.size + 1, 3, none⟩ (.int .i64 (xmi : Int))).setCell ⟨w.heap.size + 1, 4, none⟩ (.int .i64 (xst : Int))).setCell ⟨w.heap.size + 1, 5, none⟩ (.string xre)).setCell ⟨w.heap.size + 1, 6, none⟩ (.slice none 0 0))) := hide ((((((((yB.out).setCell (p := ⟨w.heap.size + 1, 0, none⟩) (by have := HBS.out; simp; omega) (.bool xr)).setCell (p := ⟨w.heap.size + 1, 1, none⟩) (by have := HBS.out; simp; omega) (.string xme)).setCell (p := ⟨w.heap.size + 1, 2, none⟩) (by have := HBS.out; simp; omega) (.string xta)).setCell (p := ⟨w.heap.size + 1, 3, none⟩) (by have := HBS.out; simp; omega) (.int .i64 (xmi : Int))).setCell (p := ⟨w.heap.size + 1, 4, none⟩) (by have := HBS.out; simp; omega) (.int .i64 (xst : Int))).setCell (p := ⟨w.heap.size + 1, 5, none⟩) (by have := HBS.out; simp; omega) (.string xre)).setCell (p := ⟨w.heap.size + 1, 6, none⟩) (by have := HBS.out; simp; omega) (.slice none 0 0))
   generalize (((((((y.setCell ⟨w.heap.size + 1, 0, none⟩ (.bool xr)).setCell ⟨w.heap.size + 1, 1, none⟩ (.string xme)).setCell ⟨w.heap.size + 1, 2, none⟩ (.string xta)).setCell ⟨w.heap.size + 1, 3, none⟩ (.int .i64 (xmi : Int))).setCell ⟨w.heap.size + 1, 4, none⟩ (.int .i64 (xst : Int))).setCell ⟨w.heap.size + 1, 5, none⟩ (.string xre)).setCell ⟨w.heap.size + 1, 6, none⟩ (.slice none 0 0)) = w9 at TF BF |-
   clear s0 s1 s2 s3 s4 s5 s6 f0 f1 f2 f3 f4 f5 f6
   obtain ⟨k0, k1, k2, k3, k4, k5, k6⟩ := TF.out.hd 1 (w.heap.size + 1) rfl rfl
   exact bodyPost_ret (v := .tuple #[.agg #[.bool xr, .string xme, .string xta, .int .i64 (xmi : Int), .int .i64 (xst : Int), .string xre, .slice none 0 0], .bool false, .int .i64 (fe : Int)]) (by simp [results, Tryz.results32, go_sem, k0, k1, k2, k3, k4, k5, k6]) rfl ⟨⟨xr, xme, xta, xmi, xst, xre, XA⟩, rfl, HY.out, BF.out, ⟨TF.out.b.size, fun k hk _ => TF.out.b.block k hk, fun _ _ _ h => by cases h⟩⟩
theorem rline_fa1 (X : Hx) (l : Value) (lines : Nat) (s : ByteArray) (w : World) (base : Nat) (hl : FRow w base l X.fs) (hb : base <= w.heap.size) (hs : s.size <= 8192) (h1 : X.me.size = 0 /\ X.st ≠ 0) (h4 : 0 < s.size) (h5 : X.fs.length <= 100) (h6 : fldE s = 0 /\ X.fs.length = 100) :
  Calls Tryz.prog 32 #[hxV X l, .int .i64 (lines : Int), .string s] w fun e w' => ∃ u, e = .returned (.tuple #[hxV ⟨X.r, X.me, X.ta, X.mi, X.st, X.re, X.fs ++ [fldR s]⟩ u, .bool false, .int .i64 (if fldE s = 0 /\ X.fs.length = 100 then 85 else fldE s : Nat)]) /\ FRow w' base u (X.fs ++ [fldR s]) /\ Below base w w' /\ Kept w w' l u := by
 obtain ⟨la, ln, lc, rfl⟩ : ∃ a n c, l = .slice a n c := by
  obtain ⟨a, c, h, _⟩ := hl.shape
  exact ⟨a, _, c, h⟩
 have HLN : Hid (ln = X.fs.length) := hide (by obtain ⟨a, c, h, _⟩ := hl.shape; simp only [Value.slice.injEq] at h; exact h.2.1)
 have HR := hide hl
 have HBS := hide hb
 have HOW : Hid (∀ g, w.heap.size <= g -> (Value.slice la ln lc).ownBlock ≠ some g) := hide (fun g hg h => by have := (hl.lt h).2; omega)
 clear hl hb
 unfold hxV
 obtain ⟨r, me, ta, mi, st, re, A⟩ := X
 dsimp only at *
 have HF := hide (fun W => rfield_any s W h4 hs)
 generalize fldE s = fe at HF h6
 generalize fldR s = fr at HF
 obtain ⟨fa, fb⟩ := fr
 dsimp only at HF
 generalize hE : (if fe = 0 /\ A.length = 100 then 85 else fe) = E0
 have e2 : s.toList.isEmpty = false := by rw [Lib.toList_data, isEmpty_size]; exact decide_eq_false (by omega)
 clear h4
 have e1 : me.toList.isEmpty = true := by rw [Lib.toList_data, isEmpty_size]; exact decide_eq_true h1.1
 have t1 : ((st : Int) != 0) = true := bne_iff_ne.2 (by have := h1.2; omega)
 clear h1
 have EE : Hid (E0 = 85) := hide (by rw [<- hE, if_pos h6])
 clear hE
 obtain ⟨he, hn⟩ := h6
 subst he
 have i1 : (100 : Int) <= (ln : Int) := by have := HLN.out; omega
 clear hn
 go_enter Tryz.func32, Tryz.ntmps32
 go_upto_region 1 with fail
 have T0 := hide (Bl.two w #[.bool r, .string me, .string ta, .int .i64 (mi : Int), .int .i64 (st : Int), .string re, .slice la ln lc] 27 #[.bool false, .string ⟨#[]⟩, .string ⟨#[]⟩, .int .i64 0, .int .i64 0, .string ⟨#[]⟩, .slice none 0 0] 27)
 generalize ((w.alloc (.cells #[.bool r, .string me, .string ta, .int .i64 (mi : Int), .int .i64 (st : Int), .string re, .slice la ln lc] 27)).alloc (.cells #[.bool false, .string ⟨#[]⟩, .string ⟨#[]⟩, .int .i64 0, .int .i64 0, .string ⟨#[]⟩, .slice none 0 0] 27)) = x at T0 |-
 have R0 := hide (HR.out.below T0.out.b)
 have xB := hide (T0.out.b.mono HBS.out)
 obtain ⟨r0, r1, r2, r3, r4, r5, r6⟩ := T0.out.hd 0 w.heap.size rfl rfl
 go_wp2_with fail
 refine (HF.out x).mono ?_
 rintro e w1 ⟨rfl, bb⟩
 have T1 := hide (T0.out.below bb)
 have R1 := hide (R0.out.below bb)
 have w1B := hide (xB.out.trans (bb.mono (Nat.le_trans HBS.out T0.out.b.size)))
 clear bb r0 r1 r2 r3 r4 r5 r6 T0 R0 xB
 go_upto_region 10 with fail
 have D2 := hide (Bl.one w1 #[.string fa, .string fb] 92)
 have T2 := hide (T1.out.below D2.out.b)
 have R2 := hide (R1.out.below D2.out.b)
 have yB := hide (w1B.out.trans (D2.out.b.mono (Nat.le_trans HBS.out T1.out.b.size)))
 generalize (w1.alloc (.cells #[.string fa, .string fb] 92)) = y at T2 D2 yB R2 |-
 clear T1 R1 w1B
 have r6 : y.cell? ⟨w.heap.size, 6, none⟩ = some (.slice la ln lc) := T2.out.cell 0 rfl 6
 have q0 : y.cell? ⟨w1.heap.size, 0, none⟩ = some (.string fa) := D2.out.cell 0 rfl 0
 have q1 : y.cell? ⟨w1.heap.size, 1, none⟩ = some (.string fb) := D2.out.cell 0 rfl 1
 go_wp2_with (at_builtin; apply Hid.out)
 unfold Hid
 refine wpList_append_fld_k rfl _ _ rfl y base (.slice la ln lc) A fa fb rfl rfl R2.out (by omega) (Nat.le_trans HBS.out T2.out.b.size) ?_
 intro v' W' RW BW KW
 obtain ⟨va, vl, vc, rfl⟩ : ∃ a n c, v' = .slice a n c := by
  obtain ⟨a, c, h, _⟩ := RW.shape
  exact ⟨a, _, c, h⟩
 have hw0 := blk_lt (T2.out.hp 0 _ _ rfl)
 have hw1 := blk_lt (T2.out.hp 1 _ _ rfl)
 have hb0 : W'.heap[w.heap.size]? = some (.cells #[.bool r, .string me, .string ta, .int .i64 (mi : Int), .int .i64 (st : Int), .string re, .slice la ln lc] 27) := (KW.block _ hw0 (HOW.out _ (Nat.le_refl _))).trans (T2.out.hp 0 _ _ rfl)
 have hb1 : W'.heap[w.heap.size + 1]? = some (.cells #[.bool false, .string ⟨#[]⟩, .string ⟨#[]⟩, .int .i64 0, .int .i64 0, .string ⟨#[]⟩, .slice none 0 0] 27) := (KW.block _ hw1 (HOW.out _ (by omega))).trans (T2.out.hp 1 _ _ rfl)
 have RA := hide (And.intro RW (KW.apart _ hw0 (HOW.out _ (Nat.le_refl _))))
 have RB := hide (KW.apart _ hw1 (HOW.out _ (by omega)))
 have WB := hide (yB.out.trans BW)
 have KK : Hid (Kept w W' (.slice la ln lc) (.slice va vl vc)) := hide ⟨Nat.le_trans T2.out.b.size KW.size, fun k hk hn => (KW.block k (Nat.lt_of_lt_of_le hk T2.out.b.size) hn).trans (T2.out.b.block k hk), fun k hk hn => KW.apart k (Nat.lt_of_lt_of_le hk T2.out.b.size) hn⟩
 clear RW BW KW hw0 hw1 r6 q0 q1 T2 D2 R2 yB
 have c6 : W'.cell? ⟨w.heap.size, 6, none⟩ = some (.slice la ln lc) := cell_at hb0 6
 have z6 : W'.frozen? ⟨w.heap.size, 6, none⟩ = false := by rw [frozen_at hb0]; simp
 have hz0 : Hid ((W'.setCell ⟨w.heap.size, 6, none⟩ (.slice va vl vc)).heap[w.heap.size]? = some (.cells #[.bool r, .string me, .string ta, .int .i64 (mi : Int), .int .i64 (st : Int), .string re, .slice va vl vc] 27)) := hide (hp_set hb0 6 (.slice va vl vc))
 have hz1' : Hid ((W'.setCell ⟨w.heap.size, 6, none⟩ (.slice va vl vc)).heap[w.heap.size + 1]? = some (.cells #[.bool false, .string ⟨#[]⟩, .string ⟨#[]⟩, .int .i64 0, .int .i64 0, .string ⟨#[]⟩, .slice none 0 0] 27)) := hide ((Below.heap_setCell _ _ _ _ (by simp)).trans hb1)
 have RZ := hide (And.intro (setAway RA.out 6 (.slice va vl vc)).1 RB.out)
 have zK := hide (KK.out.set (g := w.heap.size) (Nat.le_refl _) 6 (.slice va vl vc))
 have zB := hide (WB.out.setCell (p := ⟨w.heap.size, 6, none⟩) HBS.out (.slice va vl vc))
 clear hb0 hb1
 go_upto_region 13 with fail
 generalize W'.setCell ⟨w.heap.size, 6, none⟩ (.slice va vl vc) = z at hz0 hz1' RZ zB zK |-
 clear c6 z6
 have hz1 := hz1'.out
 have r0 : z.cell? ⟨w.heap.size, 0, none⟩ = some (.bool r) := cell_at hz0.out 0
 have r1 : z.cell? ⟨w.heap.size, 1, none⟩ = some (.string me) := cell_at hz0.out 1
 have r2 : z.cell? ⟨w.heap.size, 2, none⟩ = some (.string ta) := cell_at hz0.out 2
 have r3 : z.cell? ⟨w.heap.size, 3, none⟩ = some (.int .i64 (mi : Int)) := cell_at hz0.out 3
 have r4 : z.cell? ⟨w.heap.size, 4, none⟩ = some (.int .i64 (st : Int)) := cell_at hz0.out 4
 have r5 : z.cell? ⟨w.heap.size, 5, none⟩ = some (.string re) := cell_at hz0.out 5
 have r6 : z.cell? ⟨w.heap.size, 6, none⟩ = some (.slice va vl vc) := cell_at hz0.out 6
 have s0 : z.cell? ⟨w.heap.size + 1, 0, none⟩ = some (.bool false) := cell_at hz1 0
 have f0 : z.frozen? ⟨w.heap.size + 1, 0, none⟩ = false := by rw [frozen_at hz1]; simp
 have s1 : z.cell? ⟨w.heap.size + 1, 1, none⟩ = some (.string ⟨#[]⟩) := cell_at hz1 1
 have f1 : z.frozen? ⟨w.heap.size + 1, 1, none⟩ = false := by rw [frozen_at hz1]; simp
 have s2 : z.cell? ⟨w.heap.size + 1, 2, none⟩ = some (.string ⟨#[]⟩) := cell_at hz1 2
 have f2 : z.frozen? ⟨w.heap.size + 1, 2, none⟩ = false := by rw [frozen_at hz1]; simp
 have s3 : z.cell? ⟨w.heap.size + 1, 3, none⟩ = some (.int .i64 0) := cell_at hz1 3
 have f3 : z.frozen? ⟨w.heap.size + 1, 3, none⟩ = false := by rw [frozen_at hz1]; simp
 have s4 : z.cell? ⟨w.heap.size + 1, 4, none⟩ = some (.int .i64 0) := cell_at hz1 4
 have f4 : z.frozen? ⟨w.heap.size + 1, 4, none⟩ = false := by rw [frozen_at hz1]; simp
 have s5 : z.cell? ⟨w.heap.size + 1, 5, none⟩ = some (.string ⟨#[]⟩) := cell_at hz1 5
 have f5 : z.frozen? ⟨w.heap.size + 1, 5, none⟩ = false := by rw [frozen_at hz1]; simp
 have s6 : z.cell? ⟨w.heap.size + 1, 6, none⟩ = some (.slice none 0 0) := cell_at hz1 6
 have f6 : z.frozen? ⟨w.heap.size + 1, 6, none⟩ = false := by rw [frozen_at hz1]; simp
 clear hz1
 go_wp2
 have hz1 := hz1'.out
 have hF0 : Hid ((z.setCell ⟨w.heap.size + 1, 0, none⟩ (.bool r)).heap[w.heap.size + 1]? = some (.cells #[.bool r, .string ⟨#[]⟩, .string ⟨#[]⟩, .int .i64 0, .int .i64 0, .string ⟨#[]⟩, .slice none 0 0] 27)) := hide (hp_set hz1 0 (.bool r))
 have hF1 : Hid (((z.setCell ⟨w.heap.size + 1, 0, none⟩ (.bool r)).setCell ⟨w.heap.size + 1, 1, none⟩ (.string me)).heap[w.heap.size + 1]? = some (.cells #[.bool r, .string me, .string ⟨#[]⟩, .int .i64 0, .int .i64 0, .string ⟨#[]⟩, .slice none 0 0] 27)) := hide (hp_set hF0.out 1 (.string me))
 have hF2 : Hid ((((z.setCell ⟨w.heap.size + 1, 0, none⟩ (.bool r)).setCell ⟨w.heap.size + 1, 1, none⟩ (.string me)).setCell ⟨w.heap.size + 1, 2, none⟩ (.string ta)).heap[w.heap.size + 1]? = some (.cells #[.bool r, .string me, .string ta, .int .i64 0, .int .i64 0, .string ⟨#[]⟩, .slice none 0 0] 27)) := hide (hp_set hF1.out 2 (.string ta))
 have hF3 : Hid (((((z.setCell ⟨w.heap.size + 1, 0, none⟩ (.bool r)).setCell ⟨w.heap.size + 1, 1, none⟩ (.string me)).setCell ⟨w.heap.size + 1, 2, none⟩ (.string ta)).setCell ⟨w.heap.size + 1, 3, none⟩ (.int .i64 (mi : Int))).heap[w.heap.size + 1]? = some (.cells #[.bool r, .string me, .string ta, .int .i64 (mi : Int), .int .i64 0, .string ⟨#[]⟩, .slice none 0 0] 27)) := hide (hp_set hF2.out 3 (.int .i64 (mi : Int)))
 have hF4 : Hid ((((((z.setCell ⟨w.heap.size + 1, 0, none⟩ (.bool r)).setCell ⟨w.heap.size + 1, 1, none⟩ (.string me)).setCell ⟨w.heap.size + 1, 2, none⟩ (.string ta)).setCell ⟨w.heap.size + 1, 3, none⟩ (.int .i64 (mi : Int))).setCell ⟨w.heap.size + 1, 4, none⟩ (.int .i64 (st : Int))).heap[w.heap.size + 1]? = some (.cells #[.bool r, .string me, .string ta, .int .i64 (mi : Int), .int .i64 (st : Int), .string ⟨#[]⟩, .slice none 0 0] 27)) := hide (hp_set hF3.out 4 (.int .i64 (st : Int)))
 have hF5 : Hid (((((((z.setCell ⟨w.heap.size + 1, 0, none⟩ (.bool r)).setCell ⟨w.heap.size + 1, 1, none⟩ (.string me)).setCell ⟨w.heap.size + 1, 2, none⟩ (.string ta)).setCell ⟨w.heap.size + 1, 3, none⟩ (.int .i64 (mi : Int))).setCell ⟨w.heap.size + 1, 4, none⟩ (.int .i64 (st : Int))).setCell ⟨w.heap.size + 1, 5, none⟩ (.string re)).heap[w.heap.size + 1]? = some (.cells #[.bool r, .string me, .string ta, .int .i64 (mi : Int), .int .i64 (st : Int), .string re, .slice none 0 0] 27)) := hide (hp_set hF4.out 5 (.string re))
 have hF : Hid ((((((((z.setCell ⟨w.heap.size + 1, 0, none⟩ (.bool r)).setCell ⟨w.heap.size + 1, 1, none⟩ (.string me)).setCell ⟨w.heap.size + 1, 2, none⟩ (.string ta)).setCell ⟨w.heap.size + 1, 3, none⟩ (.int .i64 (mi : Int))).setCell ⟨w.heap.size + 1, 4, none⟩ (.int .i64 (st : Int))).setCell ⟨w.heap.size + 1, 5, none⟩ (.string re)).setCell ⟨w.heap.size + 1, 6, none⟩ (.slice va vl vc)).heap[w.heap.size + 1]? = some (.cells #[.bool r, .string me, .string ta, .int .i64 (mi : Int), .int .i64 (st : Int), .string re, .slice va vl vc] 27)) := hide (hp_set hF5.out 6 (.slice va vl vc))
 clear hF0 hF1 hF2 hF3 hF4 hF5
 have BF := hide (((((((zB.out.setCell (p := ⟨w.heap.size + 1, 0, none⟩) (by have := HBS.out; simp; omega) (.bool r)).setCell (p := ⟨w.heap.size + 1, 1, none⟩) (by have := HBS.out; simp; omega) (.string me)).setCell (p := ⟨w.heap.size + 1, 2, none⟩) (by have := HBS.out; simp; omega) (.string ta)).setCell (p := ⟨w.heap.size + 1, 3, none⟩) (by have := HBS.out; simp; omega) (.int .i64 (mi : Int))).setCell (p := ⟨w.heap.size + 1, 4, none⟩) (by have := HBS.out; simp; omega) (.int .i64 (st : Int))).setCell (p := ⟨w.heap.size + 1, 5, none⟩) (by have := HBS.out; simp; omega) (.string re)).setCell (p := ⟨w.heap.size + 1, 6, none⟩) (by have := HBS.out; simp; omega) (.slice va vl vc))
 have RF := hide (setAway (setAway (setAway (setAway (setAway (setAway (setAway RZ.out 0 (.bool r)) 1 (.string me)) 2 (.string ta)) 3 (.int .i64 (mi : Int))) 4 (.int .i64 (st : Int))) 5 (.string re)) 6 (.slice va vl vc))
 have KF := hide (Kept.set (Kept.set (Kept.set (Kept.set (Kept.set (Kept.set (Kept.set zK.out (g := w.heap.size + 1) (by omega) 0 (.bool r)) (g := w.heap.size + 1) (by omega) 1 (.string me)) (g := w.heap.size + 1) (by omega) 2 (.string ta)) (g := w.heap.size + 1) (by omega) 3 (.int .i64 (mi : Int))) (g := w.heap.size + 1) (by omega) 4 (.int .i64 (st : Int))) (g := w.heap.size + 1) (by omega) 5 (.string re)) (g := w.heap.size + 1) (by omega) 6 (.slice va vl vc))
 clear hz1 hz1'
 generalize (((((((z.setCell ⟨w.heap.size + 1, 0, none⟩ (.bool r)).setCell ⟨w.heap.size + 1, 1, none⟩ (.string me)).setCell ⟨w.heap.size + 1, 2, none⟩ (.string ta)).setCell ⟨w.heap.size + 1, 3, none⟩ (.int .i64 (mi : Int))).setCell ⟨w.heap.size + 1, 4, none⟩ (.int .i64 (st : Int))).setCell ⟨w.heap.size + 1, 5, none⟩ (.string re)).setCell ⟨w.heap.size + 1, 6, none⟩ (.slice va vl vc)) = w9 at hF BF RF KF |-
 clear s0 s1 s2 s3 s4 s5 s6 f0 f1 f2 f3 f4 f5 f6 r0 r1 r2 r3 r4 r5 r6
 have k0 : w9.cell? ⟨w.heap.size + 1, 0, none⟩ = some (.bool r) := cell_at hF.out 0
 have k1 : w9.cell? ⟨w.heap.size + 1, 1, none⟩ = some (.string me) := cell_at hF.out 1
 have k2 : w9.cell? ⟨w.heap.size + 1, 2, none⟩ = some (.string ta) := cell_at hF.out 2
 have k3 : w9.cell? ⟨w.heap.size + 1, 3, none⟩ = some (.int .i64 (mi : Int)) := cell_at hF.out 3
 have k4 : w9.cell? ⟨w.heap.size + 1, 4, none⟩ = some (.int .i64 (st : Int)) := cell_at hF.out 4
 have k5 : w9.cell? ⟨w.heap.size + 1, 5, none⟩ = some (.string re) := cell_at hF.out 5
 have k6 : w9.cell? ⟨w.heap.size + 1, 6, none⟩ = some (.slice va vl vc) := cell_at hF.out 6
 exact bodyPost_ret (v := .tuple #[.agg #[.bool r, .string me, .string ta, .int .i64 (mi : Int), .int .i64 (st : Int), .string re, .slice va vl vc], .bool false, .int .i64 85]) (by simp [results, Tryz.results32, go_sem, k0, k1, k2, k3, k4, k5, k6]) rfl ⟨.slice va vl vc, by rw [EE.out]; rfl, RF.out.1, BF.out, KF.out⟩
theorem rline_fa2 (X : Hx) (l : Value) (lines : Nat) (s : ByteArray) (w : World) (base : Nat) (hl : FRow w base l X.fs) (hb : base <= w.heap.size) (hs : s.size <= 8192) (h1 : X.me.size = 0 /\ X.st ≠ 0) (h4 : 0 < s.size) (h5 : X.fs.length <= 100) (h6 : fldE s = 0 /\ X.fs.length ≠ 100) :
  Calls Tryz.prog 32 #[hxV X l, .int .i64 (lines : Int), .string s] w fun e w' => ∃ u, e = .returned (.tuple #[hxV ⟨X.r, X.me, X.ta, X.mi, X.st, X.re, X.fs ++ [fldR s]⟩ u, .bool false, .int .i64 (if fldE s = 0 /\ X.fs.length = 100 then 85 else fldE s : Nat)]) /\ FRow w' base u (X.fs ++ [fldR s]) /\ Below base w w' /\ Kept w w' l u := by
 obtain ⟨la, ln, lc, rfl⟩ : ∃ a n c, l = .slice a n c := by
  obtain ⟨a, c, h, _⟩ := hl.shape
  exact ⟨a, _, c, h⟩
 have HLN : Hid (ln = X.fs.length) := hide (by obtain ⟨a, c, h, _⟩ := hl.shape; simp only [Value.slice.injEq] at h; exact h.2.1)
 have HR := hide hl
 have HBS := hide hb
 have HOW : Hid (∀ g, w.heap.size <= g -> (Value.slice la ln lc).ownBlock ≠ some g) := hide (fun g hg h => by have := (hl.lt h).2; omega)
 clear hl hb
 unfold hxV
 obtain ⟨r, me, ta, mi, st, re, A⟩ := X
 dsimp only at *
 have HF := hide (fun W => rfield_any s W h4 hs)
 generalize fldE s = fe at HF h6
 generalize fldR s = fr at HF
 obtain ⟨fa, fb⟩ := fr
 dsimp only at HF
 generalize hE : (if fe = 0 /\ A.length = 100 then 85 else fe) = E0
 have e2 : s.toList.isEmpty = false := by rw [Lib.toList_data, isEmpty_size]; exact decide_eq_false (by omega)
 clear h4
 have e1 : me.toList.isEmpty = true := by rw [Lib.toList_data, isEmpty_size]; exact decide_eq_true h1.1
 have t1 : ((st : Int) != 0) = true := bne_iff_ne.2 (by have := h1.2; omega)
 clear h1
 have EE : Hid (E0 = 0) := hide (by rw [<- hE, if_neg (fun h => h6.2 h.2), h6.1])
 clear hE
 obtain ⟨he, hn⟩ := h6
 subst he
 have i1 : ¬ (100 : Int) <= (ln : Int) := by have := HLN.out; omega
 clear hn
 go_enter Tryz.func32, Tryz.ntmps32
 go_upto_region 1 with fail
 have T0 := hide (Bl.two w #[.bool r, .string me, .string ta, .int .i64 (mi : Int), .int .i64 (st : Int), .string re, .slice la ln lc] 27 #[.bool false, .string ⟨#[]⟩, .string ⟨#[]⟩, .int .i64 0, .int .i64 0, .string ⟨#[]⟩, .slice none 0 0] 27)
 generalize ((w.alloc (.cells #[.bool r, .string me, .string ta, .int .i64 (mi : Int), .int .i64 (st : Int), .string re, .slice la ln lc] 27)).alloc (.cells #[.bool false, .string ⟨#[]⟩, .string ⟨#[]⟩, .int .i64 0, .int .i64 0, .string ⟨#[]⟩, .slice none 0 0] 27)) = x at T0 |-
 have R0 := hide (HR.out.below T0.out.b)
 have xB := hide (T0.out.b.mono HBS.out)
 obtain ⟨r0, r1, r2, r3, r4, r5, r6⟩ := T0.out.hd 0 w.heap.size rfl rfl
 go_wp2_with fail
 refine (HF.out x).mono ?_
 rintro e w1 ⟨rfl, bb⟩
 have T1 := hide (T0.out.below bb)
 have R1 := hide (R0.out.below bb)
 have w1B := hide (xB.out.trans (bb.mono (Nat.le_trans HBS.out T0.out.b.size)))
 clear bb r0 r1 r2 r3 r4 r5 r6 T0 R0 xB
 go_upto_region 10 with fail
 have D2 := hide (Bl.one w1 #[.string fa, .string fb] 92)
 have T2 := hide (T1.out.below D2.out.b)
 have R2 := hide (R1.out.below D2.out.b)
 have yB := hide (w1B.out.trans (D2.out.b.mono (Nat.le_trans HBS.out T1.out.b.size)))
 generalize (w1.alloc (.cells #[.string fa, .string fb] 92)) = y at T2 D2 yB R2 |-
 clear T1 R1 w1B
 have r6 : y.cell? ⟨w.heap.size, 6, none⟩ = some (.slice la ln lc) := T2.out.cell 0 rfl 6
 have q0 : y.cell? ⟨w1.heap.size, 0, none⟩ = some (.string fa) := D2.out.cell 0 rfl 0
 have q1 : y.cell? ⟨w1.heap.size, 1, none⟩ = some (.string fb) := D2.out.cell 0 rfl 1
 go_wp2_with (at_builtin; apply Hid.out)
 unfold Hid
 refine wpList_append_fld_k rfl _ _ rfl y base (.slice la ln lc) A fa fb rfl rfl R2.out (by omega) (Nat.le_trans HBS.out T2.out.b.size) ?_
 intro v' W' RW BW KW
 obtain ⟨va, vl, vc, rfl⟩ : ∃ a n c, v' = .slice a n c := by
  obtain ⟨a, c, h, _⟩ := RW.shape
  exact ⟨a, _, c, h⟩
 have hw0 := blk_lt (T2.out.hp 0 _ _ rfl)
 have hw1 := blk_lt (T2.out.hp 1 _ _ rfl)
 have hb0 : W'.heap[w.heap.size]? = some (.cells #[.bool r, .string me, .string ta, .int .i64 (mi : Int), .int .i64 (st : Int), .string re, .slice la ln lc] 27) := (KW.block _ hw0 (HOW.out _ (Nat.le_refl _))).trans (T2.out.hp 0 _ _ rfl)
 have hb1 : W'.heap[w.heap.size + 1]? = some (.cells #[.bool false, .string ⟨#[]⟩, .string ⟨#[]⟩, .int .i64 0, .int .i64 0, .string ⟨#[]⟩, .slice none 0 0] 27) := (KW.block _ hw1 (HOW.out _ (by omega))).trans (T2.out.hp 1 _ _ rfl)
 have RA := hide (And.intro RW (KW.apart _ hw0 (HOW.out _ (Nat.le_refl _))))
 have RB := hide (KW.apart _ hw1 (HOW.out _ (by omega)))
 have WB := hide (yB.out.trans BW)
 have KK : Hid (Kept w W' (.slice la ln lc) (.slice va vl vc)) := hide ⟨Nat.le_trans T2.out.b.size KW.size, fun k hk hn => (KW.block k (Nat.lt_of_lt_of_le hk T2.out.b.size) hn).trans (T2.out.b.block k hk), fun k hk hn => KW.apart k (Nat.lt_of_lt_of_le hk T2.out.b.size) hn⟩
 clear RW BW KW hw0 hw1 r6 q0 q1 T2 D2 R2 yB
 have c6 : W'.cell? ⟨w.heap.size, 6, none⟩ = some (.slice la ln lc) := cell_at hb0 6
 have z6 : W'.frozen? ⟨w.heap.size, 6, none⟩ = false := by rw [frozen_at hb0]; simp
 have hz0 : Hid ((W'.setCell ⟨w.heap.size, 6, none⟩ (.slice va vl vc)).heap[w.heap.size]? = some (.cells #[.bool r, .string me, .string ta, .int .i64 (mi : Int), .int .i64 (st : Int), .string re, .slice va vl vc] 27)) := hide (hp_set hb0 6 (.slice va vl vc))
 have hz1' : Hid ((W'.setCell ⟨w.heap.size, 6, none⟩ (.slice va vl vc)).heap[w.heap.size + 1]? = some (.cells #[.bool false, .string ⟨#[]⟩, .string ⟨#[]⟩, .int .i64 0, .int .i64 0, .string ⟨#[]⟩, .slice none 0 0] 27)) := hide ((Below.heap_setCell _ _ _ _ (by simp)).trans hb1)
 have RZ := hide (And.intro (setAway RA.out 6 (.slice va vl vc)).1 RB.out)
 have zK := hide (KK.out.set (g := w.heap.size) (Nat.le_refl _) 6 (.slice va vl vc))
 have zB := hide (WB.out.setCell (p := ⟨w.heap.size, 6, none⟩) HBS.out (.slice va vl vc))
 clear hb0 hb1
 go_upto_region 13 with fail
 generalize W'.setCell ⟨w.heap.size, 6, none⟩ (.slice va vl vc) = z at hz0 hz1' RZ zB zK |-
 clear c6 z6
 have hz1 := hz1'.out
 have r0 : z.cell? ⟨w.heap.size, 0, none⟩ = some (.bool r) := cell_at hz0.out 0
 have r1 : z.cell? ⟨w.heap.size, 1, none⟩ = some (.string me) := cell_at hz0.out 1
 have r2 : z.cell? ⟨w.heap.size, 2, none⟩ = some (.string ta) := cell_at hz0.out 2
 have r3 : z.cell? ⟨w.heap.size, 3, none⟩ = some (.int .i64 (mi : Int)) := cell_at hz0.out 3
 have r4 : z.cell? ⟨w.heap.size, 4, none⟩ = some (.int .i64 (st : Int)) := cell_at hz0.out 4
 have r5 : z.cell? ⟨w.heap.size, 5, none⟩ = some (.string re) := cell_at hz0.out 5
 have r6 : z.cell? ⟨w.heap.size, 6, none⟩ = some (.slice va vl vc) := cell_at hz0.out 6
 have s0 : z.cell? ⟨w.heap.size + 1, 0, none⟩ = some (.bool false) := cell_at hz1 0
 have f0 : z.frozen? ⟨w.heap.size + 1, 0, none⟩ = false := by rw [frozen_at hz1]; simp
 have s1 : z.cell? ⟨w.heap.size + 1, 1, none⟩ = some (.string ⟨#[]⟩) := cell_at hz1 1
 have f1 : z.frozen? ⟨w.heap.size + 1, 1, none⟩ = false := by rw [frozen_at hz1]; simp
 have s2 : z.cell? ⟨w.heap.size + 1, 2, none⟩ = some (.string ⟨#[]⟩) := cell_at hz1 2
 have f2 : z.frozen? ⟨w.heap.size + 1, 2, none⟩ = false := by rw [frozen_at hz1]; simp
 have s3 : z.cell? ⟨w.heap.size + 1, 3, none⟩ = some (.int .i64 0) := cell_at hz1 3
 have f3 : z.frozen? ⟨w.heap.size + 1, 3, none⟩ = false := by rw [frozen_at hz1]; simp
 have s4 : z.cell? ⟨w.heap.size + 1, 4, none⟩ = some (.int .i64 0) := cell_at hz1 4
 have f4 : z.frozen? ⟨w.heap.size + 1, 4, none⟩ = false := by rw [frozen_at hz1]; simp
 have s5 : z.cell? ⟨w.heap.size + 1, 5, none⟩ = some (.string ⟨#[]⟩) := cell_at hz1 5
 have f5 : z.frozen? ⟨w.heap.size + 1, 5, none⟩ = false := by rw [frozen_at hz1]; simp
 have s6 : z.cell? ⟨w.heap.size + 1, 6, none⟩ = some (.slice none 0 0) := cell_at hz1 6
 have f6 : z.frozen? ⟨w.heap.size + 1, 6, none⟩ = false := by rw [frozen_at hz1]; simp
 clear hz1
 go_wp2
 have hz1 := hz1'.out
 have hF0 : Hid ((z.setCell ⟨w.heap.size + 1, 0, none⟩ (.bool r)).heap[w.heap.size + 1]? = some (.cells #[.bool r, .string ⟨#[]⟩, .string ⟨#[]⟩, .int .i64 0, .int .i64 0, .string ⟨#[]⟩, .slice none 0 0] 27)) := hide (hp_set hz1 0 (.bool r))
 have hF1 : Hid (((z.setCell ⟨w.heap.size + 1, 0, none⟩ (.bool r)).setCell ⟨w.heap.size + 1, 1, none⟩ (.string me)).heap[w.heap.size + 1]? = some (.cells #[.bool r, .string me, .string ⟨#[]⟩, .int .i64 0, .int .i64 0, .string ⟨#[]⟩, .slice none 0 0] 27)) := hide (hp_set hF0.out 1 (.string me))
 have hF2 : Hid ((((z.setCell ⟨w.heap.size + 1, 0, none⟩ (.bool r)).setCell ⟨w.heap.size + 1, 1, none⟩ (.string me)).setCell ⟨w.heap.size + 1, 2, none⟩ (.string ta)).heap[w.heap.size + 1]? = some (.cells #[.bool r, .string me, .string ta, .int .i64 0, .int .i64 0, .string ⟨#[]⟩, .slice none 0 0] 27)) := hide (hp_set hF1.out 2 (.string ta))
 have hF3 : Hid (((((z.setCell ⟨w.heap.size + 1, 0, none⟩ (.bool r)).setCell ⟨w.heap.size + 1, 1, none⟩ (.string me)).setCell ⟨w.heap.size + 1, 2, none⟩ (.string ta)).setCell ⟨w.heap.size + 1, 3, none⟩ (.int .i64 (mi : Int))).heap[w.heap.size + 1]? = some (.cells #[.bool r, .string me, .string ta, .int .i64 (mi : Int), .int .i64 0, .string ⟨#[]⟩, .slice none 0 0] 27)) := hide (hp_set hF2.out 3 (.int .i64 (mi : Int)))
 have hF4 : Hid ((((((z.setCell ⟨w.heap.size + 1, 0, none⟩ (.bool r)).setCell ⟨w.heap.size + 1, 1, none⟩ (.string me)).setCell ⟨w.heap.size + 1, 2, none⟩ (.string ta)).setCell ⟨w.heap.size + 1, 3, none⟩ (.int .i64 (mi : Int))).setCell ⟨w.heap.size + 1, 4, none⟩ (.int .i64 (st : Int))).heap[w.heap.size + 1]? = some (.cells #[.bool r, .string me, .string ta, .int .i64 (mi : Int), .int .i64 (st : Int), .string ⟨#[]⟩, .slice none 0 0] 27)) := hide (hp_set hF3.out 4 (.int .i64 (st : Int)))
 have hF5 : Hid (((((((z.setCell ⟨w.heap.size + 1, 0, none⟩ (.bool r)).setCell ⟨w.heap.size + 1, 1, none⟩ (.string me)).setCell ⟨w.heap.size + 1, 2, none⟩ (.string ta)).setCell ⟨w.heap.size + 1, 3, none⟩ (.int .i64 (mi : Int))).setCell ⟨w.heap.size + 1, 4, none⟩ (.int .i64 (st : Int))).setCell ⟨w.heap.size + 1, 5, none⟩ (.string re)).heap[w.heap.size + 1]? = some (.cells #[.bool r, .string me, .string ta, .int .i64 (mi : Int), .int .i64 (st : Int), .string re, .slice none 0 0] 27)) := hide (hp_set hF4.out 5 (.string re))
 have hF : Hid ((((((((z.setCell ⟨w.heap.size + 1, 0, none⟩ (.bool r)).setCell ⟨w.heap.size + 1, 1, none⟩ (.string me)).setCell ⟨w.heap.size + 1, 2, none⟩ (.string ta)).setCell ⟨w.heap.size + 1, 3, none⟩ (.int .i64 (mi : Int))).setCell ⟨w.heap.size + 1, 4, none⟩ (.int .i64 (st : Int))).setCell ⟨w.heap.size + 1, 5, none⟩ (.string re)).setCell ⟨w.heap.size + 1, 6, none⟩ (.slice va vl vc)).heap[w.heap.size + 1]? = some (.cells #[.bool r, .string me, .string ta, .int .i64 (mi : Int), .int .i64 (st : Int), .string re, .slice va vl vc] 27)) := hide (hp_set hF5.out 6 (.slice va vl vc))
 clear hF0 hF1 hF2 hF3 hF4 hF5
 have BF := hide (((((((zB.out.setCell (p := ⟨w.heap.size + 1, 0, none⟩) (by have := HBS.out; simp; omega) (.bool r)).setCell (p := ⟨w.heap.size + 1, 1, none⟩) (by have := HBS.out; simp; omega) (.string me)).setCell (p := ⟨w.heap.size + 1, 2, none⟩) (by have := HBS.out; simp; omega) (.string ta)).setCell (p := ⟨w.heap.size + 1, 3, none⟩) (by have := HBS.out; simp; omega) (.int .i64 (mi : Int))).setCell (p := ⟨w.heap.size + 1, 4, none⟩) (by have := HBS.out; simp; omega) (.int .i64 (st : Int))).setCell (p := ⟨w.heap.size + 1, 5, none⟩) (by have := HBS.out; simp; omega) (.string re)).setCell (p := ⟨w.heap.size + 1, 6, none⟩) (by have := HBS.out; simp; omega) (.slice va vl vc))
 have RF := hide (setAway (setAway (setAway (setAway (setAway (setAway (setAway RZ.out 0 (.bool r)) 1 (.string me)) 2 (.string ta)) 3 (.int .i64 (mi : Int))) 4 (.int .i64 (st : Int))) 5 (.string re)) 6 (.slice va vl vc))
 have KF := hide (Kept.set (Kept.set (Kept.set (Kept.set (Kept.set (Kept.set (Kept.set zK.out (g := w.heap.size + 1) (by omega) 0 (.bool r)) (g := w.heap.size + 1) (by omega) 1 (.string me)) (g := w.heap.size + 1) (by omega) 2 (.string ta)) (g := w.heap.size + 1) (by omega) 3 (.int .i64 (mi : Int))) (g := w.heap.size + 1) (by omega) 4 (.int .i64 (st : Int))) (g := w.heap.size + 1) (by omega) 5 (.string re)) (g := w.heap.size + 1) (by omega) 6 (.slice va vl vc))
 clear hz1 hz1'
 generalize (((((((z.setCell ⟨w.heap.size + 1, 0, none⟩ (.bool r)).setCell ⟨w.heap.size + 1, 1, none⟩ (.string me)).setCell ⟨w.heap.size + 1, 2, none⟩ (.string ta)).setCell ⟨w.heap.size + 1, 3, none⟩ (.int .i64 (mi : Int))).setCell ⟨w.heap.size + 1, 4, none⟩ (.int .i64 (st : Int))).setCell ⟨w.heap.size + 1, 5, none⟩ (.string re)).setCell ⟨w.heap.size + 1, 6, none⟩ (.slice va vl vc)) = w9 at hF BF RF KF |-
 clear s0 s1 s2 s3 s4 s5 s6 f0 f1 f2 f3 f4 f5 f6 r0 r1 r2 r3 r4 r5 r6
 have k0 : w9.cell? ⟨w.heap.size + 1, 0, none⟩ = some (.bool r) := cell_at hF.out 0
 have k1 : w9.cell? ⟨w.heap.size + 1, 1, none⟩ = some (.string me) := cell_at hF.out 1
 have k2 : w9.cell? ⟨w.heap.size + 1, 2, none⟩ = some (.string ta) := cell_at hF.out 2
 have k3 : w9.cell? ⟨w.heap.size + 1, 3, none⟩ = some (.int .i64 (mi : Int)) := cell_at hF.out 3
 have k4 : w9.cell? ⟨w.heap.size + 1, 4, none⟩ = some (.int .i64 (st : Int)) := cell_at hF.out 4
 have k5 : w9.cell? ⟨w.heap.size + 1, 5, none⟩ = some (.string re) := cell_at hF.out 5
 have k6 : w9.cell? ⟨w.heap.size + 1, 6, none⟩ = some (.slice va vl vc) := cell_at hF.out 6
 exact bodyPost_ret (v := .tuple #[.agg #[.bool r, .string me, .string ta, .int .i64 (mi : Int), .int .i64 (st : Int), .string re, .slice va vl vc], .bool false, .int .i64 0]) (by simp [results, Tryz.results32, go_sem, k0, k1, k2, k3, k4, k5, k6]) rfl ⟨.slice va vl vc, by rw [EE.out]; rfl, RF.out.1, BF.out, KF.out⟩
theorem rline_fa3 (X : Hx) (l : Value) (lines : Nat) (s : ByteArray) (w : World) (base : Nat) (hl : FRow w base l X.fs) (hb : base <= w.heap.size) (hs : s.size <= 8192) (h1 : X.me.size = 0 /\ X.st ≠ 0) (h4 : 0 < s.size) (h5 : X.fs.length <= 100) (h6 : fldE s ≠ 0) :
  Calls Tryz.prog 32 #[hxV X l, .int .i64 (lines : Int), .string s] w fun e w' => ∃ u, e = .returned (.tuple #[hxV ⟨X.r, X.me, X.ta, X.mi, X.st, X.re, X.fs ++ [fldR s]⟩ u, .bool false, .int .i64 (if fldE s = 0 /\ X.fs.length = 100 then 85 else fldE s : Nat)]) /\ FRow w' base u (X.fs ++ [fldR s]) /\ Below base w w' /\ Kept w w' l u := by
 obtain ⟨la, ln, lc, rfl⟩ : ∃ a n c, l = .slice a n c := by
  obtain ⟨a, c, h, _⟩ := hl.shape
  exact ⟨a, _, c, h⟩
 have HLN : Hid (ln = X.fs.length) := hide (by obtain ⟨a, c, h, _⟩ := hl.shape; simp only [Value.slice.injEq] at h; exact h.2.1)
 have HR := hide hl
 have HBS := hide hb
 have HOW : Hid (∀ g, w.heap.size <= g -> (Value.slice la ln lc).ownBlock ≠ some g) := hide (fun g hg h => by have := (hl.lt h).2; omega)
 clear hl hb
 unfold hxV
 obtain ⟨r, me, ta, mi, st, re, A⟩ := X
 dsimp only at *
 have HF := hide (fun W => rfield_any s W h4 hs)
 generalize fldE s = fe at HF h6
 generalize fldR s = fr at HF
 obtain ⟨fa, fb⟩ := fr
 dsimp only at HF
 generalize hE : (if fe = 0 /\ A.length = 100 then 85 else fe) = E0
 have e2 : s.toList.isEmpty = false := by rw [Lib.toList_data, isEmpty_size]; exact decide_eq_false (by omega)
 clear h4
 have e1 : me.toList.isEmpty = true := by rw [Lib.toList_data, isEmpty_size]; exact decide_eq_true h1.1
 have t1 : ((st : Int) != 0) = true := bne_iff_ne.2 (by have := h1.2; omega)
 clear h1
 have EE : Hid (E0 = fe) := hide (by rw [<- hE, if_neg (fun h => h6 h.1)])
 clear hE
 have t3 : ((fe : Int) == 0) = false := beq_eq_false_iff_ne.2 (by omega)
 clear h6
 go_enter Tryz.func32, Tryz.ntmps32
 go_upto_region 1 with fail
 have T0 := hide (Bl.two w #[.bool r, .string me, .string ta, .int .i64 (mi : Int), .int .i64 (st : Int), .string re, .slice la ln lc] 27 #[.bool false, .string ⟨#[]⟩, .string ⟨#[]⟩, .int .i64 0, .int .i64 0, .string ⟨#[]⟩, .slice none 0 0] 27)
 generalize ((w.alloc (.cells #[.bool r, .string me, .string ta, .int .i64 (mi : Int), .int .i64 (st : Int), .string re, .slice la ln lc] 27)).alloc (.cells #[.bool false, .string ⟨#[]⟩, .string ⟨#[]⟩, .int .i64 0, .int .i64 0, .string ⟨#[]⟩, .slice none 0 0] 27)) = x at T0 |-
 have R0 := hide (HR.out.below T0.out.b)
 have xB := hide (T0.out.b.mono HBS.out)
 obtain ⟨r0, r1, r2, r3, r4, r5, r6⟩ := T0.out.hd 0 w.heap.size rfl rfl
 go_wp2_with fail
 refine (HF.out x).mono ?_
 rintro e w1 ⟨rfl, bb⟩
 have T1 := hide (T0.out.below bb)
 have R1 := hide (R0.out.below bb)
 have w1B := hide (xB.out.trans (bb.mono (Nat.le_trans HBS.out T0.out.b.size)))
 clear bb r0 r1 r2 r3 r4 r5 r6 T0 R0 xB
 go_upto_region 10 with fail
 have D2 := hide (Bl.one w1 #[.string fa, .string fb] 92)
 have T2 := hide (T1.out.below D2.out.b)
 have R2 := hide (R1.out.below D2.out.b)
 have yB := hide (w1B.out.trans (D2.out.b.mono (Nat.le_trans HBS.out T1.out.b.size)))
 generalize (w1.alloc (.cells #[.string fa, .string fb] 92)) = y at T2 D2 yB R2 |-
 clear T1 R1 w1B
 have r6 : y.cell? ⟨w.heap.size, 6, none⟩ = some (.slice la ln lc) := T2.out.cell 0 rfl 6
 have q0 : y.cell? ⟨w1.heap.size, 0, none⟩ = some (.string fa) := D2.out.cell 0 rfl 0
 have q1 : y.cell? ⟨w1.heap.size, 1, none⟩ = some (.string fb) := D2.out.cell 0 rfl 1
 go_wp2_with (at_builtin; apply Hid.out)
 unfold Hid
 refine wpList_append_fld_k rfl _ _ rfl y base (.slice la ln lc) A fa fb rfl rfl R2.out (by omega) (Nat.le_trans HBS.out T2.out.b.size) ?_
 intro v' W' RW BW KW
 obtain ⟨va, vl, vc, rfl⟩ : ∃ a n c, v' = .slice a n c := by
  obtain ⟨a, c, h, _⟩ := RW.shape
  exact ⟨a, _, c, h⟩
 have hw0 := blk_lt (T2.out.hp 0 _ _ rfl)
 have hw1 := blk_lt (T2.out.hp 1 _ _ rfl)
 have hb0 : W'.heap[w.heap.size]? = some (.cells #[.bool r, .string me, .string ta, .int .i64 (mi : Int), .int .i64 (st : Int), .string re, .slice la ln lc] 27) := (KW.block _ hw0 (HOW.out _ (Nat.le_refl _))).trans (T2.out.hp 0 _ _ rfl)
 have hb1 : W'.heap[w.heap.size + 1]? = some (.cells #[.bool false, .string ⟨#[]⟩, .string ⟨#[]⟩, .int .i64 0, .int .i64 0, .string ⟨#[]⟩, .slice none 0 0] 27) := (KW.block _ hw1 (HOW.out _ (by omega))).trans (T2.out.hp 1 _ _ rfl)
 have RA := hide (And.intro RW (KW.apart _ hw0 (HOW.out _ (Nat.le_refl _))))
 have RB := hide (KW.apart _ hw1 (HOW.out _ (by omega)))
 have WB := hide (yB.out.trans BW)
 have KK : Hid (Kept w W' (.slice la ln lc) (.slice va vl vc)) := hide ⟨Nat.le_trans T2.out.b.size KW.size, fun k hk hn => (KW.block k (Nat.lt_of_lt_of_le hk T2.out.b.size) hn).trans (T2.out.b.block k hk), fun k hk hn => KW.apart k (Nat.lt_of_lt_of_le hk T2.out.b.size) hn⟩
 clear RW BW KW hw0 hw1 r6 q0 q1 T2 D2 R2 yB
 have c6 : W'.cell? ⟨w.heap.size, 6, none⟩ = some (.slice la ln lc) := cell_at hb0 6
 have z6 : W'.frozen? ⟨w.heap.size, 6, none⟩ = false := by rw [frozen_at hb0]; simp
 have hz0 : Hid ((W'.setCell ⟨w.heap.size, 6, none⟩ (.slice va vl vc)).heap[w.heap.size]? = some (.cells #[.bool r, .string me, .string ta, .int .i64 (mi : Int), .int .i64 (st : Int), .string re, .slice va vl vc] 27)) := hide (hp_set hb0 6 (.slice va vl vc))
 have hz1' : Hid ((W'.setCell ⟨w.heap.size, 6, none⟩ (.slice va vl vc)).heap[w.heap.size + 1]? = some (.cells #[.bool false, .string ⟨#[]⟩, .string ⟨#[]⟩, .int .i64 0, .int .i64 0, .string ⟨#[]⟩, .slice none 0 0] 27)) := hide ((Below.heap_setCell _ _ _ _ (by simp)).trans hb1)
 have RZ := hide (And.intro (setAway RA.out 6 (.slice va vl vc)).1 RB.out)
 have zK := hide (KK.out.set (g := w.heap.size) (Nat.le_refl _) 6 (.slice va vl vc))
 have zB := hide (WB.out.setCell (p := ⟨w.heap.size, 6, none⟩) HBS.out (.slice va vl vc))
 clear hb0 hb1
 go_upto_region 13 with fail
 generalize W'.setCell ⟨w.heap.size, 6, none⟩ (.slice va vl vc) = z at hz0 hz1' RZ zB zK |-
 clear c6 z6
 have hz1 := hz1'.out
 have r0 : z.cell? ⟨w.heap.size, 0, none⟩ = some (.bool r) := cell_at hz0.out 0
 have r1 : z.cell? ⟨w.heap.size, 1, none⟩ = some (.string me) := cell_at hz0.out 1
 have r2 : z.cell? ⟨w.heap.size, 2, none⟩ = some (.string ta) := cell_at hz0.out 2
 have r3 : z.cell? ⟨w.heap.size, 3, none⟩ = some (.int .i64 (mi : Int)) := cell_at hz0.out 3
 have r4 : z.cell? ⟨w.heap.size, 4, none⟩ = some (.int .i64 (st : Int)) := cell_at hz0.out 4
 have r5 : z.cell? ⟨w.heap.size, 5, none⟩ = some (.string re) := cell_at hz0.out 5
 have r6 : z.cell? ⟨w.heap.size, 6, none⟩ = some (.slice va vl vc) := cell_at hz0.out 6
 have s0 : z.cell? ⟨w.heap.size + 1, 0, none⟩ = some (.bool false) := cell_at hz1 0
 have f0 : z.frozen? ⟨w.heap.size + 1, 0, none⟩ = false := by rw [frozen_at hz1]; simp
 have s1 : z.cell? ⟨w.heap.size + 1, 1, none⟩ = some (.string ⟨#[]⟩) := cell_at hz1 1
 have f1 : z.frozen? ⟨w.heap.size + 1, 1, none⟩ = false := by rw [frozen_at hz1]; simp
 have s2 : z.cell? ⟨w.heap.size + 1, 2, none⟩ = some (.string ⟨#[]⟩) := cell_at hz1 2
 have f2 : z.frozen? ⟨w.heap.size + 1, 2, none⟩ = false := by rw [frozen_at hz1]; simp
 have s3 : z.cell? ⟨w.heap.size + 1, 3, none⟩ = some (.int .i64 0) := cell_at hz1 3
 have f3 : z.frozen? ⟨w.heap.size + 1, 3, none⟩ = false := by rw [frozen_at hz1]; simp
 have s4 : z.cell? ⟨w.heap.size + 1, 4, none⟩ = some (.int .i64 0) := cell_at hz1 4
 have f4 : z.frozen? ⟨w.heap.size + 1, 4, none⟩ = false := by rw [frozen_at hz1]; simp
 have s5 : z.cell? ⟨w.heap.size + 1, 5, none⟩ = some (.string ⟨#[]⟩) := cell_at hz1 5
 have f5 : z.frozen? ⟨w.heap.size + 1, 5, none⟩ = false := by rw [frozen_at hz1]; simp
 have s6 : z.cell? ⟨w.heap.size + 1, 6, none⟩ = some (.slice none 0 0) := cell_at hz1 6
 have f6 : z.frozen? ⟨w.heap.size + 1, 6, none⟩ = false := by rw [frozen_at hz1]; simp
 clear hz1
 go_wp2
 have hz1 := hz1'.out
 have hF0 : Hid ((z.setCell ⟨w.heap.size + 1, 0, none⟩ (.bool r)).heap[w.heap.size + 1]? = some (.cells #[.bool r, .string ⟨#[]⟩, .string ⟨#[]⟩, .int .i64 0, .int .i64 0, .string ⟨#[]⟩, .slice none 0 0] 27)) := hide (hp_set hz1 0 (.bool r))
 have hF1 : Hid (((z.setCell ⟨w.heap.size + 1, 0, none⟩ (.bool r)).setCell ⟨w.heap.size + 1, 1, none⟩ (.string me)).heap[w.heap.size + 1]? = some (.cells #[.bool r, .string me, .string ⟨#[]⟩, .int .i64 0, .int .i64 0, .string ⟨#[]⟩, .slice none 0 0] 27)) := hide (hp_set hF0.out 1 (.string me))
 have hF2 : Hid ((((z.setCell ⟨w.heap.size + 1, 0, none⟩ (.bool r)).setCell ⟨w.heap.size + 1, 1, none⟩ (.string me)).setCell ⟨w.heap.size + 1, 2, none⟩ (.string ta)).heap[w.heap.size + 1]? = some (.cells #[.bool r, .string me, .string ta, .int .i64 0, .int .i64 0, .string ⟨#[]⟩, .slice none 0 0] 27)) := hide (hp_set hF1.out 2 (.string ta))
 have hF3 : Hid (((((z.setCell ⟨w.heap.size + 1, 0, none⟩ (.bool r)).setCell ⟨w.heap.size + 1, 1, none⟩ (.string me)).setCell ⟨w.heap.size + 1, 2, none⟩ (.string ta)).setCell ⟨w.heap.size + 1, 3, none⟩ (.int .i64 (mi : Int))).heap[w.heap.size + 1]? = some (.cells #[.bool r, .string me, .string ta, .int .i64 (mi : Int), .int .i64 0, .string ⟨#[]⟩, .slice none 0 0] 27)) := hide (hp_set hF2.out 3 (.int .i64 (mi : Int)))
 have hF4 : Hid ((((((z.setCell ⟨w.heap.size + 1, 0, none⟩ (.bool r)).setCell ⟨w.heap.size + 1, 1, none⟩ (.string me)).setCell ⟨w.heap.size + 1, 2, none⟩ (.string ta)).setCell ⟨w.heap.size + 1, 3, none⟩ (.int .i64 (mi : Int))).setCell ⟨w.heap.size + 1, 4, none⟩ (.int .i64 (st : Int))).heap[w.heap.size + 1]? = some (.cells #[.bool r, .string me, .string ta, .int .i64 (mi : Int), .int .i64 (st : Int), .string ⟨#[]⟩, .slice none 0 0] 27)) := hide (hp_set hF3.out 4 (.int .i64 (st : Int)))
 have hF5 : Hid (((((((z.setCell ⟨w.heap.size + 1, 0, none⟩ (.bool r)).setCell ⟨w.heap.size + 1, 1, none⟩ (.string me)).setCell ⟨w.heap.size + 1, 2, none⟩ (.string ta)).setCell ⟨w.heap.size + 1, 3, none⟩ (.int .i64 (mi : Int))).setCell ⟨w.heap.size + 1, 4, none⟩ (.int .i64 (st : Int))).setCell ⟨w.heap.size + 1, 5, none⟩ (.string re)).heap[w.heap.size + 1]? = some (.cells #[.bool r, .string me, .string ta, .int .i64 (mi : Int), .int .i64 (st : Int), .string re, .slice none 0 0] 27)) := hide (hp_set hF4.out 5 (.string re))
 have hF : Hid ((((((((z.setCell ⟨w.heap.size + 1, 0, none⟩ (.bool r)).setCell ⟨w.heap.size + 1, 1, none⟩ (.string me)).setCell ⟨w.heap.size + 1, 2, none⟩ (.string ta)).setCell ⟨w.heap.size + 1, 3, none⟩ (.int .i64 (mi : Int))).setCell ⟨w.heap.size + 1, 4, none⟩ (.int .i64 (st : Int))).setCell ⟨w.heap.size + 1, 5, none⟩ (.string re)).setCell ⟨w.heap.size + 1, 6, none⟩ (.slice va vl vc)).heap[w.heap.size + 1]? = some (.cells #[.bool r, .string me, .string ta, .int .i64 (mi : Int), .int .i64 (st : Int), .string re, .slice va vl vc] 27)) := hide (hp_set hF5.out 6 (.slice va vl vc))
 clear hF0 hF1 hF2 hF3 hF4 hF5
 have BF := hide (((((((zB.out.setCell (p := ⟨w.heap.size + 1, 0, none⟩) (by have := HBS.out; simp; omega) (.bool r)).setCell (p := ⟨w.heap.size + 1, 1, none⟩) (by have := HBS.out; simp; omega) (.string me)).setCell (p := ⟨w.heap.size + 1, 2, none⟩) (by have := HBS.out; simp; omega) (.string ta)).setCell (p := ⟨w.heap.size + 1, 3, none⟩) (by have := HBS.out; simp; omega) (.int .i64 (mi : Int))).setCell (p := ⟨w.heap.size + 1, 4, none⟩) (by have := HBS.out; simp; omega) (.int .i64 (st : Int))).setCell (p := ⟨w.heap.size + 1, 5, none⟩) (by have := HBS.out; simp; omega) (.string re)).setCell (p := ⟨w.heap.size + 1, 6, none⟩) (by have := HBS.out; simp; omega) (.slice va vl vc))
 have RF := hide (setAway (setAway (setAway (setAway (setAway (setAway (setAway RZ.out 0 (.bool r)) 1 (.string me)) 2 (.string ta)) 3 (.int .i64 (mi : Int))) 4 (.int .i64 (st : Int))) 5 (.string re)) 6 (.slice va vl vc))
 have KF := hide (Kept.set (Kept.set (Kept.set (Kept.set (Kept.set (Kept.set (Kept.set zK.out (g := w.heap.size + 1) (by omega) 0 (.bool r)) (g := w.heap.size + 1) (by omega) 1 (.string me)) (g := w.heap.size + 1) (by omega) 2 (.string ta)) (g := w.heap.size + 1) (by omega) 3 (.int .i64 (mi : Int))) (g := w.heap.size + 1) (by omega) 4 (.int .i64 (st : Int))) (g := w.heap.size + 1) (by omega) 5 (.string re)) (g := w.heap.size + 1) (by omega) 6 (.slice va vl vc))
 clear hz1 hz1'
 generalize (((((((z.setCell ⟨w.heap.size + 1, 0, none⟩ (.bool r)).setCell ⟨w.heap.size + 1, 1, none⟩ (.string me)).setCell ⟨w.heap.size + 1, 2, none⟩ (.string ta)).setCell ⟨w.heap.size + 1, 3, none⟩ (.int .i64 (mi : Int))).setCell ⟨w.heap.size + 1, 4, none⟩ (.int .i64 (st : Int))).setCell ⟨w.heap.size + 1, 5, none⟩ (.string re)).setCell ⟨w.heap.size + 1, 6, none⟩ (.slice va vl vc)) = w9 at hF BF RF KF |-
 clear s0 s1 s2 s3 s4 s5 s6 f0 f1 f2 f3 f4 f5 f6 r0 r1 r2 r3 r4 r5 r6
 have k0 : w9.cell? ⟨w.heap.size + 1, 0, none⟩ = some (.bool r) := cell_at hF.out 0
 have k1 : w9.cell? ⟨w.heap.size + 1, 1, none⟩ = some (.string me) := cell_at hF.out 1
 have k2 : w9.cell? ⟨w.heap.size + 1, 2, none⟩ = some (.string ta) := cell_at hF.out 2
 have k3 : w9.cell? ⟨w.heap.size + 1, 3, none⟩ = some (.int .i64 (mi : Int)) := cell_at hF.out 3
 have k4 : w9.cell? ⟨w.heap.size + 1, 4, none⟩ = some (.int .i64 (st : Int)) := cell_at hF.out 4
 have k5 : w9.cell? ⟨w.heap.size + 1, 5, none⟩ = some (.string re) := cell_at hF.out 5
 have k6 : w9.cell? ⟨w.heap.size + 1, 6, none⟩ = some (.slice va vl vc) := cell_at hF.out 6
 exact bodyPost_ret (v := .tuple #[.agg #[.bool r, .string me, .string ta, .int .i64 (mi : Int), .int .i64 (st : Int), .string re, .slice va vl vc], .bool false, .int .i64 (fe : Int)]) (by simp [results, Tryz.results32, go_sem, k0, k1, k2, k3, k4, k5, k6]) rfl ⟨.slice va vl vc, by rw [EE.out], RF.out.1, BF.out, KF.out⟩
theorem rline_fb1 (X : Hx) (l : Value) (lines : Nat) (s : ByteArray) (w : World) (base : Nat) (hl : FRow w base l X.fs) (hb : base <= w.heap.size) (hs : s.size <= 8192) (h1 : X.me.size ≠ 0) (h4 : 0 < s.size) (h5 : X.fs.length <= 100) (h6 : fldE s = 0 /\ X.fs.length = 100) :
  Calls Tryz.prog 32 #[hxV X l, .int .i64 (lines : Int), .string s] w fun e w' => ∃ u, e = .returned (.tuple #[hxV ⟨X.r, X.me, X.ta, X.mi, X.st, X.re, X.fs ++ [fldR s]⟩ u, .bool false, .int .i64 (if fldE s = 0 /\ X.fs.length = 100 then 85 else fldE s : Nat)]) /\ FRow w' base u (X.fs ++ [fldR s]) /\ Below base w w' /\ Kept w w' l u := by
 obtain ⟨la, ln, lc, rfl⟩ : ∃ a n c, l = .slice a n c := by
  obtain ⟨a, c, h, _⟩ := hl.shape
  exact ⟨a, _, c, h⟩
 have HLN : Hid (ln = X.fs.length) := hide (by obtain ⟨a, c, h, _⟩ := hl.shape; simp only [Value.slice.injEq] at h; exact h.2.1)
 have HR := hide hl
 have HBS := hide hb
 have HOW : Hid (∀ g, w.heap.size <= g -> (Value.slice la ln lc).ownBlock ≠ some g) := hide (fun g hg h => by have := (hl.lt h).2; omega)
 clear hl hb
 unfold hxV
 obtain ⟨r, me, ta, mi, st, re, A⟩ := X
 dsimp only at *
 have HF := hide (fun W => rfield_any s W h4 hs)
 generalize fldE s = fe at HF h6
 generalize fldR s = fr at HF
 obtain ⟨fa, fb⟩ := fr
 dsimp only at HF
 generalize hE : (if fe = 0 /\ A.length = 100 then 85 else fe) = E0
 have e2 : s.toList.isEmpty = false := by rw [Lib.toList_data, isEmpty_size]; exact decide_eq_false (by omega)
 clear h4
 have e1 : me.toList.isEmpty = false := by rw [Lib.toList_data, isEmpty_size]; exact decide_eq_false h1
 clear h1
 have EE : Hid (E0 = 85) := hide (by rw [<- hE, if_pos h6])
 clear hE
 obtain ⟨he, hn⟩ := h6
 subst he
 have i1 : (100 : Int) <= (ln : Int) := by have := HLN.out; omega
 clear hn
 go_enter Tryz.func32, Tryz.ntmps32
 go_upto_region 1 with fail
 have T0 := hide (Bl.two w #[.bool r, .string me, .string ta, .int .i64 (mi : Int), .int .i64 (st : Int), .string re, .slice la ln lc] 27 #[.bool false, .string ⟨#[]⟩, .string ⟨#[]⟩, .int .i64 0, .int .i64 0, .string ⟨#[]⟩, .slice none 0 0] 27)
 generalize ((w.alloc (.cells #[.bool r, .string me, .string ta, .int .i64 (mi : Int), .int .i64 (st : Int), .string re, .slice la ln lc] 27)).alloc (.cells #[.bool false, .string ⟨#[]⟩, .string ⟨#[]⟩, .int .i64 0, .int .i64 0, .string ⟨#[]⟩, .slice none 0 0] 27)) = x at T0 |-
 have R0 := hide (HR.out.below T0.out.b)
 have xB := hide (T0.out.b.mono HBS.out)
 obtain ⟨r0, r1, r2, r3, r4, r5, r6⟩ := T0.out.hd 0 w.heap.size rfl rfl
 go_wp2_with fail
 refine (HF.out x).mono ?_
 rintro e w1 ⟨rfl, bb⟩
 have T1 := hide (T0.out.below bb)
 have R1 := hide (R0.out.below bb)
 have w1B := hide (xB.out.trans (bb.mono (Nat.le_trans HBS.out T0.out.b.size)))
 clear bb r0 r1 r2 r3 r4 r5 r6 T0 R0 xB
 go_upto_region 10 with fail
 have D2 := hide (Bl.one w1 #[.string fa, .string fb] 92)
 have T2 := hide (T1.out.below D2.out.b)
 have R2 := hide (R1.out.below D2.out.b)
 have yB := hide (w1B.out.trans (D2.out.b.mono (Nat.le_trans HBS.out T1.out.b.size)))
 generalize (w1.alloc (.cells #[.string fa, .string fb] 92)) = y at T2 D2 yB R2 |-
 clear T1 R1 w1B
 have r6 : y.cell? ⟨w.heap.size, 6, none⟩ = some (.slice la ln lc) := T2.out.cell 0 rfl 6
 have q0 : y.cell? ⟨w1.heap.size, 0, none⟩ = some (.string fa) := D2.out.cell 0 rfl 0
 have q1 : y.cell? ⟨w1.heap.size, 1, none⟩ = some (.string fb) := D2.out.cell 0 rfl 1
 go_wp2_with (at_builtin; apply Hid.out)
 unfold Hid
 refine wpList_append_fld_k rfl _ _ rfl y base (.slice la ln lc) A fa fb rfl rfl R2.out (by omega) (Nat.le_trans HBS.out T2.out.b.size) ?_
 intro v' W' RW BW KW
 obtain ⟨va, vl, vc, rfl⟩ : ∃ a n c, v' = .slice a n c := by
  obtain ⟨a, c, h, _⟩ := RW.shape
  exact ⟨a, _, c, h⟩
 have hw0 := blk_lt (T2.out.hp 0 _ _ rfl)
 have hw1 := blk_lt (T2.out.hp 1 _ _ rfl)
 have hb0 : W'.heap[w.heap.size]? = some (.cells #[.bool r, .string me, .string ta, .int .i64 (mi : Int), .int .i64 (st : Int), .string re, .slice la ln lc] 27) := (KW.block _ hw0 (HOW.out _ (Nat.le_refl _))).trans (T2.out.hp 0 _ _ rfl)
 have hb1 : W'.heap[w.heap.size + 1]? = some (.cells #[.bool false, .string ⟨#[]⟩, .string ⟨#[]⟩, .int .i64 0, .int .i64 0, .string ⟨#[]⟩, .slice none 0 0] 27) := (KW.block _ hw1 (HOW.out _ (by omega))).trans (T2.out.hp 1 _ _ rfl)
 have RA := hide (And.intro RW (KW.apart _ hw0 (HOW.out _ (Nat.le_refl _))))
 have RB := hide (KW.apart _ hw1 (HOW.out _ (by omega)))
 have WB := hide (yB.out.trans BW)
 have KK : Hid (Kept w W' (.slice la ln lc) (.slice va vl vc)) := hide ⟨Nat.le_trans T2.out.b.size KW.size, fun k hk hn => (KW.block k (Nat.lt_of_lt_of_le hk T2.out.b.size) hn).trans (T2.out.b.block k hk), fun k hk hn => KW.apart k (Nat.lt_of_lt_of_le hk T2.out.b.size) hn⟩
 clear RW BW KW hw0 hw1 r6 q0 q1 T2 D2 R2 yB
 have c6 : W'.cell? ⟨w.heap.size, 6, none⟩ = some (.slice la ln lc) := cell_at hb0 6
 have z6 : W'.frozen? ⟨w.heap.size, 6, none⟩ = false := by rw [frozen_at hb0]; simp
 have hz0 : Hid ((W'.setCell ⟨w.heap.size, 6, none⟩ (.slice va vl vc)).heap[w.heap.size]? = some (.cells #[.bool r, .string me, .string ta, .int .i64 (mi : Int), .int .i64 (st : Int), .string re, .slice va vl vc] 27)) := hide (hp_set hb0 6 (.slice va vl vc))
 have hz1' : Hid ((W'.setCell ⟨w.heap.size, 6, none⟩ (.slice va vl vc)).heap[w.heap.size + 1]? = some (.cells #[.bool false, .string ⟨#[]⟩, .string ⟨#[]⟩, .int .i64 0, .int .i64 0, .string ⟨#[]⟩, .slice none 0 0] 27)) := hide ((Below.heap_setCell _ _ _ _ (by simp)).trans hb1)
 have RZ := hide (And.intro (setAway RA.out 6 (.slice va vl vc)).1 RB.out)
 have zK := hide (KK.out.set (g := w.heap.size) (Nat.le_refl _) 6 (.slice va vl vc))
 have zB := hide (WB.out.setCell (p := ⟨w.heap.size, 6, none⟩) HBS.out (.slice va vl vc))
 clear hb0 hb1
 go_upto_region 13 with fail
 generalize W'.setCell ⟨w.heap.size, 6, none⟩ (.slice va vl vc) = z at hz0 hz1' RZ zB zK |-
 clear c6 z6
 have hz1 := hz1'.out
 have r0 : z.cell? ⟨w.heap.size, 0, none⟩ = some (.bool r) := cell_at hz0.out 0
 have r1 : z.cell? ⟨w.heap.size, 1, none⟩ = some (.string me) := cell_at hz0.out 1
 have r2 : z.cell? ⟨w.heap.size, 2, none⟩ = some (.string ta) := cell_at hz0.out 2
 have r3 : z.cell? ⟨w.heap.size, 3, none⟩ = some (.int .i64 (mi : Int)) := cell_at hz0.out 3
 have r4 : z.cell? ⟨w.heap.size, 4, none⟩ = some (.int .i64 (st : Int)) := cell_at hz0.out 4
 have r5 : z.cell? ⟨w.heap.size, 5, none⟩ = some (.string re) := cell_at hz0.out 5
 have r6 : z.cell? ⟨w.heap.size, 6, none⟩ = some (.slice va vl vc) := cell_at hz0.out 6
 have s0 : z.cell? ⟨w.heap.size + 1, 0, none⟩ = some (.bool false) := cell_at hz1 0
 have f0 : z.frozen? ⟨w.heap.size + 1, 0, none⟩ = false := by rw [frozen_at hz1]; simp
 have s1 : z.cell? ⟨w.heap.size + 1, 1, none⟩ = some (.string ⟨#[]⟩) := cell_at hz1 1
 have f1 : z.frozen? ⟨w.heap.size + 1, 1, none⟩ = false := by rw [frozen_at hz1]; simp
 have s2 : z.cell? ⟨w.heap.size + 1, 2, none⟩ = some (.string ⟨#[]⟩) := cell_at hz1 2
 have f2 : z.frozen? ⟨w.heap.size + 1, 2, none⟩ = false := by rw [frozen_at hz1]; simp
 have s3 : z.cell? ⟨w.heap.size + 1, 3, none⟩ = some (.int .i64 0) := cell_at hz1 3
 have f3 : z.frozen? ⟨w.heap.size + 1, 3, none⟩ = false := by rw [frozen_at hz1]; simp
 have s4 : z.cell? ⟨w.heap.size + 1, 4, none⟩ = some (.int .i64 0) := cell_at hz1 4
 have f4 : z.frozen? ⟨w.heap.size + 1, 4, none⟩ = false := by rw [frozen_at hz1]; simp
 have s5 : z.cell? ⟨w.heap.size + 1, 5, none⟩ = some (.string ⟨#[]⟩) := cell_at hz1 5
 have f5 : z.frozen? ⟨w.heap.size + 1, 5, none⟩ = false := by rw [frozen_at hz1]; simp
 have s6 : z.cell? ⟨w.heap.size + 1, 6, none⟩ = some (.slice none 0 0) := cell_at hz1 6
 have f6 : z.frozen? ⟨w.heap.size + 1, 6, none⟩ = false := by rw [frozen_at hz1]; simp
 clear hz1
 go_wp2
 have hz1 := hz1'.out
 have hF0 : Hid ((z.setCell ⟨w.heap.size + 1, 0, none⟩ (.bool r)).heap[w.heap.size + 1]? = some (.cells #[.bool r, .string ⟨#[]⟩, .string ⟨#[]⟩, .int .i64 0, .int .i64 0, .string ⟨#[]⟩, .slice none 0 0] 27)) := hide (hp_set hz1 0 (.bool r))
 have hF1 : Hid (((z.setCell ⟨w.heap.size + 1, 0, none⟩ (.bool r)).setCell ⟨w.heap.size + 1, 1, none⟩ (.string me)).heap[w.heap.size + 1]? = some (.cells #[.bool r, .string me, .string ⟨#[]⟩, .int .i64 0, .int .i64 0, .string ⟨#[]⟩, .slice none 0 0] 27)) := hide (hp_set hF0.out 1 (.string me))
 have hF2 : Hid ((((z.setCell ⟨w.heap.size + 1, 0, none⟩ (.bool r)).setCell ⟨w.heap.size + 1, 1, none⟩ (.string me)).setCell ⟨w.heap.size + 1, 2, none⟩ (.string ta)).heap[w.heap.size + 1]? = some (.cells #[.bool r, .string me, .string ta, .int .i64 0, .int .i64 0, .string ⟨#[]⟩, .slice none 0 0] 27)) := hide (hp_set hF1.out 2 (.string ta))
 have hF3 : Hid (((((z.setCell ⟨w.heap.size + 1, 0, none⟩ (.bool r)).setCell ⟨w.heap.size + 1, 1, none⟩ (.string me)).setCell ⟨w.heap.size + 1, 2, none⟩ (.string ta)).setCell ⟨w.heap.size + 1, 3, none⟩ (.int .i64 (mi : Int))).heap[w.heap.size + 1]? = some (.cells #[.bool r, .string me, .string ta, .int .i64 (mi : Int), .int .i64 0, .string ⟨#[]⟩, .slice none 0 0] 27)) := hide (hp_set hF2.out 3 (.int .i64 (mi : Int)))
 have hF4 : Hid ((((((z.setCell ⟨w.heap.size + 1, 0, none⟩ (.bool r)).setCell ⟨w.heap.size + 1, 1, none⟩ (.string me)).setCell ⟨w.heap.size + 1, 2, none⟩ (.string ta)).setCell ⟨w.heap.size + 1, 3, none⟩ (.int .i64 (mi : Int))).setCell ⟨w.heap.size + 1, 4, none⟩ (.int .i64 (st : Int))).heap[w.heap.size + 1]? = some (.cells #[.bool r, .string me, .string ta, .int .i64 (mi : Int), .int .i64 (st : Int), .string ⟨#[]⟩, .slice none 0 0] 27)) := hide (hp_set hF3.out 4 (.int .i64 (st : Int)))
 have hF5 : Hid (((((((z.setCell ⟨w.heap.size + 1, 0, none⟩ (.bool r)).setCell ⟨w.heap.size + 1, 1, none⟩ (.string me)).setCell ⟨w.heap.size + 1, 2, none⟩ (.string ta)).setCell ⟨w.heap.size + 1, 3, none⟩ (.int .i64 (mi : Int))).setCell ⟨w.heap.size + 1, 4, none⟩ (.int .i64 (st : Int))).setCell ⟨w.heap.size + 1, 5, none⟩ (.string re)).heap[w.heap.size + 1]? = some (.cells #[.bool r, .string me, .string ta, .int .i64 (mi : Int), .int .i64 (st : Int), .string re, .slice none 0 0] 27)) := hide (hp_set hF4.out 5 (.string re))
 have hF : Hid ((((((((z.setCell ⟨w.heap.size + 1, 0, none⟩ (.bool r)).setCell ⟨w.heap.size + 1, 1, none⟩ (.string me)).setCell ⟨w.heap.size + 1, 2, none⟩ (.string ta)).setCell ⟨w.heap.size + 1, 3, none⟩ (.int .i64 (mi : Int))).setCell ⟨w.heap.size + 1, 4, none⟩ (.int .i64 (st : Int))).setCell ⟨w.heap.size + 1, 5, none⟩ (.string re)).setCell ⟨w.heap.size + 1, 6, none⟩ (.slice va vl vc)).heap[w.heap.size + 1]? = some (.cells #[.bool r, .string me, .string ta, .int .i64 (mi : Int), .int .i64 (st : Int), .string re, .slice va vl vc] 27)) := hide (hp_set hF5.out 6 (.slice va vl vc))
 clear hF0 hF1 hF2 hF3 hF4 hF5
 have BF := hide (((((((zB.out.setCell (p := ⟨w.heap.size + 1, 0, none⟩) (by have := HBS.out; simp; omega) (.bool r)).setCell (p := ⟨w.heap.size + 1, 1, none⟩) (by have := HBS.out; simp; omega) (.string me)).setCell (p := ⟨w.heap.size + 1, 2, none⟩) (by have := HBS.out; simp; omega) (.string ta)).setCell (p := ⟨w.heap.size + 1, 3, none⟩) (by have := HBS.out; simp; omega) (.int .i64 (mi : Int))).setCell (p := ⟨w.heap.size + 1, 4, none⟩) (by have := HBS.out; simp; omega) (.int .i64 (st : Int))).setCell (p := ⟨w.heap.size + 1, 5, none⟩) (by have := HBS.out; simp; omega) (.string re)).setCell (p := ⟨w.heap.size + 1, 6, none⟩) (by have := HBS.out; simp; omega) (.slice va vl vc))
 have RF := hide (setAway (setAway (setAway (setAway (setAway (setAway (setAway RZ.out 0 (.bool r)) 1 (.string me)) 2 (.string ta)) 3 (.int .i64 (mi : Int))) 4 (.int .i64 (st : Int))) 5 (.string re)) 6 (.slice va vl vc))
 have KF := hide (Kept.set (Kept.set (Kept.set (Kept.set (Kept.set (Kept.set (Kept.set zK.out (g := w.heap.size + 1) (by omega) 0 (.bool r)) (g := w.heap.size + 1) (by omega) 1 (.string me)) (g := w.heap.size + 1) (by omega) 2 (.string ta)) (g := w.heap.size + 1) (by omega) 3 (.int .i64 (mi : Int))) (g := w.heap.size + 1) (by omega) 4 (.int .i64 (st : Int))) (g := w.heap.size + 1) (by omega) 5 (.string re)) (g := w.heap.size + 1) (by omega) 6 (.slice va vl vc))
 clear hz1 hz1'
 generalize (((((((z.setCell ⟨w.heap.size + 1, 0, none⟩ (.bool r)).setCell ⟨w.heap.size + 1, 1, none⟩ (.string me)).setCell ⟨w.heap.size + 1, 2, none⟩ (.string ta)).setCell ⟨w.heap.size + 1, 3, none⟩ (.int .i64 (mi : Int))).setCell ⟨w.heap.size + 1, 4, none⟩ (.int .i64 (st : Int))).setCell ⟨w.heap.size + 1, 5, none⟩ (.string re)).setCell ⟨w.heap.size + 1, 6, none⟩ (.slice va vl vc)) = w9 at hF BF RF KF |-
 clear s0 s1 s2 s3 s4 s5 s6 f0 f1 f2 f3 f4 f5 f6 r0 r1 r2 r3 r4 r5 r6
 have k0 : w9.cell? ⟨w.heap.size + 1, 0, none⟩ = some (.bool r) := cell_at hF.out 0
 have k1 : w9.cell? ⟨w.heap.size + 1, 1, none⟩ = some (.string me) := cell_at hF.out 1
 have k2 : w9.cell? ⟨w.heap.size + 1, 2, none⟩ = some (.string ta) := cell_at hF.out 2
 have k3 : w9.cell? ⟨w.heap.size + 1, 3, none⟩ = some (.int .i64 (mi : Int)) := cell_at hF.out 3
 have k4 : w9.cell? ⟨w.heap.size + 1, 4, none⟩ = some (.int .i64 (st : Int)) := cell_at hF.out 4
 have k5 : w9.cell? ⟨w.heap.size + 1, 5, none⟩ = some (.string re) := cell_at hF.out 5
 have k6 : w9.cell? ⟨w.heap.size + 1, 6, none⟩ = some (.slice va vl vc) := cell_at hF.out 6
 exact bodyPost_ret (v := .tuple #[.agg #[.bool r, .string me, .string ta, .int .i64 (mi : Int), .int .i64 (st : Int), .string re, .slice va vl vc], .bool false, .int .i64 85]) (by simp [results, Tryz.results32, go_sem, k0, k1, k2, k3, k4, k5, k6]) rfl ⟨.slice va vl vc, by rw [EE.out]; rfl, RF.out.1, BF.out, KF.out⟩
theorem rline_fb2 (X : Hx) (l : Value) (lines : Nat) (s : ByteArray) (w : World) (base : Nat) (hl : FRow w base l X.fs) (hb : base <= w.heap.size) (hs : s.size <= 8192) (h1 : X.me.size ≠ 0) (h4 : 0 < s.size) (h5 : X.fs.length <= 100) (h6 : fldE s = 0 /\ X.fs.length ≠ 100) :
  Calls Tryz.prog 32 #[hxV X l, .int .i64 (lines : Int), .string s] w fun e w' => ∃ u, e = .returned (.tuple #[hxV ⟨X.r, X.me, X.ta, X.mi, X.st, X.re, X.fs ++ [fldR s]⟩ u, .bool false, .int .i64 (if fldE s = 0 /\ X.fs.length = 100 then 85 else fldE s : Nat)]) /\ FRow w' base u (X.fs ++ [fldR s]) /\ Below base w w' /\ Kept w w' l u := by
 obtain ⟨la, ln, lc, rfl⟩ : ∃ a n c, l = .slice a n c := by
  obtain ⟨a, c, h, _⟩ := hl.shape
  exact ⟨a, _, c, h⟩
 have HLN : Hid (ln = X.fs.length) := hide (by obtain ⟨a, c, h, _⟩ := hl.shape; simp only [Value.slice.injEq] at h; exact h.2.1)
 have HR := hide hl
 have HBS := hide hb
 have HOW : Hid (∀ g, w.heap.size <= g -> (Value.slice la ln lc).ownBlock ≠ some g) := hide (fun g hg h => by have := (hl.lt h).2; omega)
 clear hl hb
 unfold hxV
 obtain ⟨r, me, ta, mi, st, re, A⟩ := X
 dsimp only at *
 have HF := hide (fun W => rfield_any s W h4 hs)
 generalize fldE s = fe at HF h6
 generalize fldR s = fr at HF
 obtain ⟨fa, fb⟩ := fr
 dsimp only at HF
 generalize hE : (if fe = 0 /\ A.length = 100 then 85 else fe) = E0
 have e2 : s.toList.isEmpty = false := by rw [Lib.toList_data, isEmpty_size]; exact decide_eq_false (by omega)
 clear h4
 have e1 : me.toList.isEmpty = false := by rw [Lib.toList_data, isEmpty_size]; exact decide_eq_false h1
 clear h1
 have EE : Hid (E0 = 0) := hide (by rw [<- hE, if_neg (fun h => h6.2 h.2), h6.1])
 clear hE
 obtain ⟨he, hn⟩ := h6
 subst he
 have i1 : ¬ (100 : Int) <= (ln : Int) := by have := HLN.out; omega
 clear hn
 go_enter Tryz.func32, Tryz.ntmps32
 go_upto_region 1 with fail
 have T0 := hide (Bl.two w #[.bool r, .string me, .string ta, .int .i64 (mi : Int), .int .i64 (st : Int), .string re, .slice la ln lc] 27 #[.bool false, .string ⟨#[]⟩, .string ⟨#[]⟩, .int .i64 0, .int .i64 0, .string ⟨#[]⟩, .slice none 0 0] 27)
 generalize ((w.alloc (.cells #[.bool r, .string me, .string ta, .int .i64 (mi : Int), .int .i64 (st : Int), .string re, .slice la ln lc] 27)).alloc (.cells #[.bool false, .string ⟨#[]⟩, .string ⟨#[]⟩, .int .i64 0, .int .i64 0, .string ⟨#[]⟩, .slice none 0 0] 27)) = x at T0 |-
 have R0 := hide (HR.out.below T0.out.b)
 have xB := hide (T0.out.b.mono HBS.out)
 obtain ⟨r0, r1, r2, r3, r4, r5, r6⟩ := T0.out.hd 0 w.heap.size rfl rfl
 go_wp2_with fail
 refine (HF.out x).mono ?_
 rintro e w1 ⟨rfl, bb⟩
 have T1 := hide (T0.out.below bb)
 have R1 := hide (R0.out.below bb)
 have w1B := hide (xB.out.trans (bb.mono (Nat.le_trans HBS.out T0.out.b.size)))
 clear bb r0 r1 r2 r3 r4 r5 r6 T0 R0 xB
 go_upto_region 10 with fail
 have D2 := hide (Bl.one w1 #[.string fa, .string fb] 92)
 have T2 := hide (T1.out.below D2.out.b)
 have R2 := hide (R1.out.below D2.out.b)
 have yB := hide (w1B.out.trans (D2.out.b.mono (Nat.le_trans HBS.out T1.out.b.size)))
 generalize (w1.alloc (.cells #[.string fa, .string fb] 92)) = y at T2 D2 yB R2 |-
 clear T1 R1 w1B
 have r6 : y.cell? ⟨w.heap.size, 6, none⟩ = some (.slice la ln lc) := T2.out.cell 0 rfl 6
 have q0 : y.cell? ⟨w1.heap.size, 0, none⟩ = some (.string fa) := D2.out.cell 0 rfl 0
 have q1 : y.cell? ⟨w1.heap.size, 1, none⟩ = some (.string fb) := D2.out.cell 0 rfl 1
 go_wp2_with (at_builtin; apply Hid.out)
 unfold Hid
 refine wpList_append_fld_k rfl _ _ rfl y base (.slice la ln lc) A fa fb rfl rfl R2.out (by omega) (Nat.le_trans HBS.out T2.out.b.size) ?_
 intro v' W' RW BW KW
 obtain ⟨va, vl, vc, rfl⟩ : ∃ a n c, v' = .slice a n c := by
  obtain ⟨a, c, h, _⟩ := RW.shape
  exact ⟨a, _, c, h⟩
 have hw0 := blk_lt (T2.out.hp 0 _ _ rfl)
 have hw1 := blk_lt (T2.out.hp 1 _ _ rfl)
 have hb0 : W'.heap[w.heap.size]? = some (.cells #[.bool r, .string me, .string ta, .int .i64 (mi : Int), .int .i64 (st : Int), .string re, .slice la ln lc] 27) := (KW.block _ hw0 (HOW.out _ (Nat.le_refl _))).trans (T2.out.hp 0 _ _ rfl)
 have hb1 : W'.heap[w.heap.size + 1]? = some (.cells #[.bool false, .string ⟨#[]⟩, .string ⟨#[]⟩, .int .i64 0, .int .i64 0, .string ⟨#[]⟩, .slice none 0 0] 27) := (KW.block _ hw1 (HOW.out _ (by omega))).trans (T2.out.hp 1 _ _ rfl)
 have RA := hide (And.intro RW (KW.apart _ hw0 (HOW.out _ (Nat.le_refl _))))
 have RB := hide (KW.apart _ hw1 (HOW.out _ (by omega)))
 have WB := hide (yB.out.trans BW)
 have KK : Hid (Kept w W' (.slice la ln lc) (.slice va vl vc)) := hide ⟨Nat.le_trans T2.out.b.size KW.size, fun k hk hn => (KW.block k (Nat.lt_of_lt_of_le hk T2.out.b.size) hn).trans (T2.out.b.block k hk), fun k hk hn => KW.apart k (Nat.lt_of_lt_of_le hk T2.out.b.size) hn⟩
 clear RW BW KW hw0 hw1 r6 q0 q1 T2 D2 R2 yB
 have c6 : W'.cell? ⟨w.heap.size, 6, none⟩ = some (.slice la ln lc) := cell_at hb0 6
 have z6 : W'.frozen? ⟨w.heap.size, 6, none⟩ = false := by rw [frozen_at hb0]; simp
 have hz0 : Hid ((W'.setCell ⟨w.heap.size, 6, none⟩ (.slice va vl vc)).heap[w.heap.size]? = some (.cells #[.bool r, .string me, .string ta, .int .i64 (mi : Int), .int .i64 (st : Int), .string re, .slice va vl vc] 27)) := hide (hp_set hb0 6 (.slice va vl vc))
 have hz1' : Hid ((W'.setCell ⟨w.heap.size, 6, none⟩ (.slice va vl vc)).heap[w.heap.size + 1]? = some (.cells #[.bool false, .string ⟨#[]⟩, .string ⟨#[]⟩, .int .i64 0, .int .i64 0, .string ⟨#[]⟩, .slice none 0 0] 27)) := hide ((Below.heap_setCell _ _ _ _ (by simp)).trans hb1)
 have RZ := hide (And.intro (setAway RA.out 6 (.slice va vl vc)).1 RB.out)
 have zK := hide (KK.out.set (g := w.heap.size) (Nat.le_refl _) 6 (.slice va vl vc))
 have zB := hide (WB.out.setCell (p := ⟨w.heap.size, 6, none⟩) HBS.out (.slice va vl vc))
 clear hb0 hb1
 go_upto_region 13 with fail
 generalize W'.setCell ⟨w.heap.size, 6, none⟩ (.slice va vl vc) = z at hz0 hz1' RZ zB zK |-
 clear c6 z6
 have hz1 := hz1'.out
 have r0 : z.cell? ⟨w.heap.size, 0, none⟩ = some (.bool r) := cell_at hz0.out 0
 have r1 : z.cell? ⟨w.heap.size, 1, none⟩ = some (.string me) := cell_at hz0.out 1
 have r2 : z.cell? ⟨w.heap.size, 2, none⟩ = some (.string ta) := cell_at hz0.out 2
 have r3 : z.cell? ⟨w.heap.size, 3, none⟩ = some (.int .i64 (mi : Int)) := cell_at hz0.out 3
 have r4 : z.cell? ⟨w.heap.size, 4, none⟩ = some (.int .i64 (st : Int)) := cell_at hz0.out 4
 have r5 : z.cell? ⟨w.heap.size, 5, none⟩ = some (.string re) := cell_at hz0.out 5
 have r6 : z.cell? ⟨w.heap.size, 6, none⟩ = some (.slice va vl vc) := cell_at hz0.out 6
 have s0 : z.cell? ⟨w.heap.size + 1, 0, none⟩ = some (.bool false) := cell_at hz1 0
 have f0 : z.frozen? ⟨w.heap.size + 1, 0, none⟩ = false := by rw [frozen_at hz1]; simp
 have s1 : z.cell? ⟨w.heap.size + 1, 1, none⟩ = some (.string ⟨#[]⟩) := cell_at hz1 1
 have f1 : z.frozen? ⟨w.heap.size + 1, 1, none⟩ = false := by rw [frozen_at hz1]; simp
 have s2 : z.cell? ⟨w.heap.size + 1, 2, none⟩ = some (.string ⟨#[]⟩) := cell_at hz1 2
 have f2 : z.frozen? ⟨w.heap.size + 1, 2, none⟩ = false := by rw [frozen_at hz1]; simp
 have s3 : z.cell? ⟨w.heap.size + 1, 3, none⟩ = some (.int .i64 0) := cell_at hz1 3
 have f3 : z.frozen? ⟨w.heap.size + 1, 3, none⟩ = false := by rw [frozen_at hz1]; simp
 have s4 : z.cell? ⟨w.heap.size + 1, 4, none⟩ = some (.int .i64 0) := cell_at hz1 4
 have f4 : z.frozen? ⟨w.heap.size + 1, 4, none⟩ = false := by rw [frozen_at hz1]; simp
 have s5 : z.cell? ⟨w.heap.size + 1, 5, none⟩ = some (.string ⟨#[]⟩) := cell_at hz1 5
 have f5 : z.frozen? ⟨w.heap.size + 1, 5, none⟩ = false := by rw [frozen_at hz1]; simp
 have s6 : z.cell? ⟨w.heap.size + 1, 6, none⟩ = some (.slice none 0 0) := cell_at hz1 6
 have f6 : z.frozen? ⟨w.heap.size + 1, 6, none⟩ = false := by rw [frozen_at hz1]; simp
 clear hz1
 go_wp2
 have hz1 := hz1'.out
 have hF0 : Hid ((z.setCell ⟨w.heap.size + 1, 0, none⟩ (.bool r)).heap[w.heap.size + 1]? = some (.cells #[.bool r, .string ⟨#[]⟩, .string ⟨#[]⟩, .int .i64 0, .int .i64 0, .string ⟨#[]⟩, .slice none 0 0] 27)) := hide (hp_set hz1 0 (.bool r))
 have hF1 : Hid (((z.setCell ⟨w.heap.size + 1, 0, none⟩ (.bool r)).setCell ⟨w.heap.size + 1, 1, none⟩ (.string me)).heap[w.heap.size + 1]? = some (.cells #[.bool r, .string me, .string ⟨#[]⟩, .int .i64 0, .int .i64 0, .string ⟨#[]⟩, .slice none 0 0] 27)) := hide (hp_set hF0.out 1 (.string me))
 have hF2 : Hid ((((z.setCell ⟨w.heap.size + 1, 0, none⟩ (.bool r)).setCell ⟨w.heap.size + 1, 1, none⟩ (.string me)).setCell ⟨w.heap.size + 1, 2, none⟩ (.string ta)).heap[w.heap.size + 1]? = some (.cells #[.bool r, .string me, .string ta, .int .i64 0, .int .i64 0, .string ⟨#[]⟩, .slice none 0 0] 27)) := hide (hp_set hF1.out 2 (.string ta))
 have hF3 : Hid (((((z.setCell ⟨w.heap.size + 1, 0, none⟩ (.bool r)).setCell ⟨w.heap.size + 1, 1, none⟩ (.string me)).setCell ⟨w.heap.size + 1, 2, none⟩ (.string ta)).setCell ⟨w.heap.size + 1, 3, none⟩ (.int .i64 (mi : Int))).heap[w.heap.size + 1]? = some (.cells #[.bool r, .string me, .string ta, .int .i64 (mi : Int), .int .i64 0, .string ⟨#[]⟩, .slice none 0 0] 27)) := hide (hp_set hF2.out 3 (.int .i64 (mi : Int)))
 have hF4 : Hid ((((((z.setCell ⟨w.heap.size + 1, 0, none⟩ (.bool r)).setCell ⟨w.heap.size + 1, 1, none⟩ (.string me)).setCell ⟨w.heap.size + 1, 2, none⟩ (.string ta)).setCell ⟨w.heap.size + 1, 3, none⟩ (.int .i64 (mi : Int))).setCell ⟨w.heap.size + 1, 4, none⟩ (.int .i64 (st : Int))).heap[w.heap.size + 1]? = some (.cells #[.bool r, .string me, .string ta, .int .i64 (mi : Int), .int .i64 (st : Int), .string ⟨#[]⟩, .slice none 0 0] 27)) := hide (hp_set hF3.out 4 (.int .i64 (st : Int)))
 have hF5 : Hid (((((((z.setCell ⟨w.heap.size + 1, 0, none⟩ (.bool r)).setCell ⟨w.heap.size + 1, 1, none⟩ (.string me)).setCell ⟨w.heap.size + 1, 2, none⟩ (.string ta)).setCell ⟨w.heap.size + 1, 3, none⟩ (.int .i64 (mi : Int))).setCell ⟨w.heap.size + 1, 4, none⟩ (.int .i64 (st : Int))).setCell ⟨w.heap.size + 1, 5, none⟩ (.string re)).heap[w.heap.size + 1]? = some (.cells #[.bool r, .string me, .string ta, .int .i64 (mi : Int), .int .i64 (st : Int), .string re, .slice none 0 0] 27)) := hide (hp_set hF4.out 5 (.string re))
 have hF : Hid ((((((((z.setCell ⟨w.heap.size + 1, 0, none⟩ (.bool r)).setCell ⟨w.heap.size + 1, 1, none⟩ (.string me)).setCell ⟨w.heap.size + 1, 2, none⟩ (.string ta)).setCell ⟨w.heap.size + 1, 3, none⟩ (.int .i64 (mi : Int))).setCell ⟨w.heap.size + 1, 4, none⟩ (.int .i64 (st : Int))).setCell ⟨w.heap.size + 1, 5, none⟩ (.string re)).setCell ⟨w.heap.size + 1, 6, none⟩ (.slice va vl vc)).heap[w.heap.size + 1]? = some (.cells #[.bool r, .string me, .string ta, .int .i64 (mi : Int), .int .i64 (st : Int), .string re, .slice va vl vc] 27)) := hide (hp_set hF5.out 6 (.slice va vl vc))
 clear hF0 hF1 hF2 hF3 hF4 hF5
 have BF := hide (((((((zB.out.setCell (p := ⟨w.heap.size + 1, 0, none⟩) (by have := HBS.out; simp; omega) (.bool r)).setCell (p := ⟨w.heap.size + 1, 1, none⟩) (by have := HBS.out; simp; omega) (.string me)).setCell (p := ⟨w.heap.size + 1, 2, none⟩) (by have := HBS.out; simp; omega) (.string ta)).setCell (p := ⟨w.heap.size + 1, 3, none⟩) (by have := HBS.out; simp; omega) (.int .i64 (mi : Int))).setCell (p := ⟨w.heap.size + 1, 4, none⟩) (by have := HBS.out; simp; omega) (.int .i64 (st : Int))).setCell (p := ⟨w.heap.size + 1, 5, none⟩) (by have := HBS.out; simp; omega) (.string re)).setCell (p := ⟨w.heap.size + 1, 6, none⟩) (by have := HBS.out; simp; omega) (.slice va vl vc))
 have RF := hide (setAway (setAway (setAway (setAway (setAway (setAway (setAway RZ.out 0 (.bool r)) 1 (.string me)) 2 (.string ta)) 3 (.int .i64 (mi : Int))) 4 (.int .i64 (st : Int))) 5 (.string re)) 6 (.slice va vl vc))
 have KF := hide (Kept.set (Kept.set (Kept.set (Kept.set (Kept.set (Kept.set (Kept.set zK.out (g := w.heap.size + 1) (by omega) 0 (.bool r)) (g := w.heap.size + 1) (by omega) 1 (.string me)) (g := w.heap.size + 1) (by omega) 2 (.string ta)) (g := w.heap.size + 1) (by omega) 3 (.int .i64 (mi : Int))) (g := w.heap.size + 1) (by omega) 4 (.int .i64 (st : Int))) (g := w.heap.size + 1) (by omega) 5 (.string re)) (g := w.heap.size + 1) (by omega) 6 (.slice va vl vc))
 clear hz1 hz1'
 generalize (((((((z.setCell ⟨w.heap.size + 1, 0, none⟩ (.bool r)).setCell ⟨w.heap.size + 1, 1, none⟩ (.string me)).setCell ⟨w.heap.size + 1, 2, none⟩ (.string ta)).setCell ⟨w.heap.size + 1, 3, none⟩ (.int .i64 (mi : Int))).setCell ⟨w.heap.size + 1, 4, none⟩ (.int .i64 (st : Int))).setCell ⟨w.heap.size + 1, 5, none⟩ (.string re)).setCell ⟨w.heap.size + 1, 6, none⟩ (.slice va vl vc)) = w9 at hF BF RF KF |-
 clear s0 s1 s2 s3 s4 s5 s6 f0 f1 f2 f3 f4 f5 f6 r0 r1 r2 r3 r4 r5 r6
 have k0 : w9.cell? ⟨w.heap.size + 1, 0, none⟩ = some (.bool r) := cell_at hF.out 0
 have k1 : w9.cell? ⟨w.heap.size + 1, 1, none⟩ = some (.string me) := cell_at hF.out 1
 have k2 : w9.cell? ⟨w.heap.size + 1, 2, none⟩ = some (.string ta) := cell_at hF.out 2
 have k3 : w9.cell? ⟨w.heap.size + 1, 3, none⟩ = some (.int .i64 (mi : Int)) := cell_at hF.out 3
 have k4 : w9.cell? ⟨w.heap.size + 1, 4, none⟩ = some (.int .i64 (st : Int)) := cell_at hF.out 4
 have k5 : w9.cell? ⟨w.heap.size + 1, 5, none⟩ = some (.string re) := cell_at hF.out 5
 have k6 : w9.cell? ⟨w.heap.size + 1, 6, none⟩ = some (.slice va vl vc) := cell_at hF.out 6
 exact bodyPost_ret (v := .tuple #[.agg #[.bool r, .string me, .string ta, .int .i64 (mi : Int), .int .i64 (st : Int), .string re, .slice va vl vc], .bool false, .int .i64 0]) (by simp [results, Tryz.results32, go_sem, k0, k1, k2, k3, k4, k5, k6]) rfl ⟨.slice va vl vc, by rw [EE.out]; rfl, RF.out.1, BF.out, KF.out⟩
theorem rline_fb3 (X : Hx) (l : Value) (lines : Nat) (s : ByteArray) (w : World) (base : Nat) (hl : FRow w base l X.fs) (hb : base <= w.heap.size) (hs : s.size <= 8192) (h1 : X.me.size ≠ 0) (h4 : 0 < s.size) (h5 : X.fs.length <= 100) (h6 : fldE s ≠ 0) :
  Calls Tryz.prog 32 #[hxV X l, .int .i64 (lines : Int), .string s] w fun e w' => ∃ u, e = .returned (.tuple #[hxV ⟨X.r, X.me, X.ta, X.mi, X.st, X.re, X.fs ++ [fldR s]⟩ u, .bool false, .int .i64 (if fldE s = 0 /\ X.fs.length = 100 then 85 else fldE s : Nat)]) /\ FRow w' base u (X.fs ++ [fldR s]) /\ Below base w w' /\ Kept w w' l u := by
 obtain ⟨la, ln, lc, rfl⟩ : ∃ a n c, l = .slice a n c := by
  obtain ⟨a, c, h, _⟩ := hl.shape
  exact ⟨a, _, c, h⟩
 have HLN : Hid (ln = X.fs.length) := hide (by obtain ⟨a, c, h, _⟩ := hl.shape; simp only [Value.slice.injEq] at h; exact h.2.1)
 have HR := hide hl
 have HBS := hide hb
 have HOW : Hid (∀ g, w.heap.size <= g -> (Value.slice la ln lc).ownBlock ≠ some g) := hide (fun g hg h => by have := (hl.lt h).2; omega)
 clear hl hb
 unfold hxV
 obtain ⟨r, me, ta, mi, st, re, A⟩ := X
 dsimp only at *
 have HF := hide (fun W => rfield_any s W h4 hs)
 generalize fldE s = fe at HF h6
 generalize fldR s = fr at HF
 obtain ⟨fa, fb⟩ := fr
 dsimp only at HF
 generalize hE : (if fe = 0 /\ A.length = 100 then 85 else fe) = E0
 have e2 : s.toList.isEmpty = false := by rw [Lib.toList_data, isEmpty_size]; exact decide_eq_false (by omega)
 clear h4
 have e1 : me.toList.isEmpty = false := by rw [Lib.toList_data, isEmpty_size]; exact decide_eq_false h1
 clear h1
 have EE : Hid (E0 = fe) := hide (by rw [<- hE, if_neg (fun h => h6 h.1)])
 clear hE
 have t3 : ((fe : Int) == 0) = false := beq_eq_false_iff_ne.2 (by omega)
 clear h6
 go_enter Tryz.func32, Tryz.ntmps32
 go_upto_region 1 with fail
 have T0 := hide (Bl.two w #[.bool r, .string me, .string ta, .int .i64 (mi : Int), .int .i64 (st : Int), .string re, .slice la ln lc] 27 #[.bool false, .string ⟨#[]⟩, .string ⟨#[]⟩, .int .i64 0, .int .i64 0, .string ⟨#[]⟩, .slice none 0 0] 27)
 generalize ((w.alloc (.cells #[.bool r, .string me, .string ta, .int .i64 (mi : Int), .int .i64 (st : Int), .string re, .slice la ln lc] 27)).alloc (.cells #[.bool false, .string ⟨#[]⟩, .string ⟨#[]⟩, .int .i64 0, .int .i64 0, .string ⟨#[]⟩, .slice none 0 0] 27)) = x at T0 |-
 have R0 := hide (HR.out.below T0.out.b)
 have xB := hide (T0.out.b.mono HBS.out)
 obtain ⟨r0, r1, r2, r3, r4, r5, r6⟩ := T0.out.hd 0 w.heap.size rfl rfl
 go_wp2_with fail
 refine (HF.out x).mono ?_
 rintro e w1 ⟨rfl, bb⟩
 have T1 := hide (T0.out.below bb)
 have R1 := hide (R0.out.below bb)
 have w1B := hide (xB.out.trans (bb.mono (Nat.le_trans HBS.out T0.out.b.size)))
 clear bb r0 r1 r2 r3 r4 r5 r6 T0 R0 xB
 go_upto_region 10 with fail
 have D2 := hide (Bl.one w1 #[.string fa, .string fb] 92)
 have T2 := hide (T1.out.below D2.out.b)
 have R2 := hide (R1.out.below D2.out.b)
 have yB := hide (w1B.out.trans (D2.out.b.mono (Nat.le_trans HBS.out T1.out.b.size)))
 generalize (w1.alloc (.cells #[.string fa, .string fb] 92)) = y at T2 D2 yB R2 |-
 clear T1 R1 w1B
 have r6 : y.cell? ⟨w.heap.size, 6, none⟩ = some (.slice la ln lc) := T2.out.cell 0 rfl 6
 have q0 : y.cell? ⟨w1.heap.size, 0, none⟩ = some (.string fa) := D2.out.cell 0 rfl 0
 have q1 : y.cell? ⟨w1.heap.size, 1, none⟩ = some (.string fb) := D2.out.cell 0 rfl 1
 go_wp2_with (at_builtin; apply Hid.out)
 unfold Hid
 refine wpList_append_fld_k rfl _ _ rfl y base (.slice la ln lc) A fa fb rfl rfl R2.out (by omega) (Nat.le_trans HBS.out T2.out.b.size) ?_
 intro v' W' RW BW KW
 obtain ⟨va, vl, vc, rfl⟩ : ∃ a n c, v' = .slice a n c := by
  obtain ⟨a, c, h, _⟩ := RW.shape
  exact ⟨a, _, c, h⟩
 have hw0 := blk_lt (T2.out.hp 0 _ _ rfl)
 have hw1 := blk_lt (T2.out.hp 1 _ _ rfl)
 have hb0 : W'.heap[w.heap.size]? = some (.cells #[.bool r, .string me, .string ta, .int .i64 (mi : Int), .int .i64 (st : Int), .string re, .slice la ln lc] 27) := (KW.block _ hw0 (HOW.out _ (Nat.le_refl _))).trans (T2.out.hp 0 _ _ rfl)
 have hb1 : W'.heap[w.heap.size + 1]? = some (.cells #[.bool false, .string ⟨#[]⟩, .string ⟨#[]⟩, .int .i64 0, .int .i64 0, .string ⟨#[]⟩, .slice none 0 0] 27) := (KW.block _ hw1 (HOW.out _ (by omega))).trans (T2.out.hp 1 _ _ rfl)
 have RA := hide (And.intro RW (KW.apart _ hw0 (HOW.out _ (Nat.le_refl _))))
 have RB := hide (KW.apart _ hw1 (HOW.out _ (by omega)))
 have WB := hide (yB.out.trans BW)
 have KK : Hid (Kept w W' (.slice la ln lc) (.slice va vl vc)) := hide ⟨Nat.le_trans T2.out.b.size KW.size, fun k hk hn => (KW.block k (Nat.lt_of_lt_of_le hk T2.out.b.size) hn).trans (T2.out.b.block k hk), fun k hk hn => KW.apart k (Nat.lt_of_lt_of_le hk T2.out.b.size) hn⟩
 clear RW BW KW hw0 hw1 r6 q0 q1 T2 D2 R2 yB
 have c6 : W'.cell? ⟨w.heap.size, 6, none⟩ = some (.slice la ln lc) := cell_at hb0 6
 have z6 : W'.frozen? ⟨w.heap.size, 6, none⟩ = false := by rw [frozen_at hb0]; simp
 have hz0 : Hid ((W'.setCell ⟨w.heap.size, 6, none⟩ (.slice va vl vc)).heap[w.heap.size]? = some (.cells #[.bool r, .string me, .string ta, .int .i64 (mi : Int), .int .i64 (st : Int), .string re, .slice va vl vc] 27)) := hide (hp_set hb0 6 (.slice va vl vc))
 have hz1' : Hid ((W'.setCell ⟨w.heap.size, 6, none⟩ (.slice va vl vc)).heap[w.heap.size + 1]? = some (.cells #[.bool false, .string ⟨#[]⟩, .string ⟨#[]⟩, .int .i64 0, .int .i64 0, .string ⟨#[]⟩, .slice none 0 0] 27)) := hide ((Below.heap_setCell _ _ _ _ (by simp)).trans hb1)
 have RZ := hide (And.intro (setAway RA.out 6 (.slice va vl vc)).1 RB.out)
 have zK := hide (KK.out.set (g := w.heap.size) (Nat.le_refl _) 6 (.slice va vl vc))
 have zB := hide (WB.out.setCell (p := ⟨w.heap.size, 6, none⟩) HBS.out (.slice va vl vc))
 clear hb0 hb1
 go_upto_region 13 with fail
 generalize W'.setCell ⟨w.heap.size, 6, none⟩ (.slice va vl vc) = z at hz0 hz1' RZ zB zK |-
 clear c6 z6
 have hz1 := hz1'.out
 have r0 : z.cell? ⟨w.heap.size, 0, none⟩ = some (.bool r) := cell_at hz0.out 0
 have r1 : z.cell? ⟨w.heap.size, 1, none⟩ = some (.string me) := cell_at hz0.out 1
 have r2 : z.cell? ⟨w.heap.size, 2, none⟩ = some (.string ta) := cell_at hz0.out 2
 have r3 : z.cell? ⟨w.heap.size, 3, none⟩ = some (.int .i64 (mi : Int)) := cell_at hz0.out 3
 have r4 : z.cell? ⟨w.heap.size, 4, none⟩ = some (.int .i64 (st : Int)) := cell_at hz0.out 4
 have r5 : z.cell? ⟨w.heap.size, 5, none⟩ = some (.string re) := cell_at hz0.out 5
 have r6 : z.cell? ⟨w.heap.size, 6, none⟩ = some (.slice va vl vc) := cell_at hz0.out 6
 have s0 : z.cell? ⟨w.heap.size + 1, 0, none⟩ = some (.bool false) := cell_at hz1 0
 have f0 : z.frozen? ⟨w.heap.size + 1, 0, none⟩ = false := by rw [frozen_at hz1]; simp
 have s1 : z.cell? ⟨w.heap.size + 1, 1, none⟩ = some (.string ⟨#[]⟩) := cell_at hz1 1
 have f1 : z.frozen? ⟨w.heap.size + 1, 1, none⟩ = false := by rw [frozen_at hz1]; simp
 have s2 : z.cell? ⟨w.heap.size + 1, 2, none⟩ = some (.string ⟨#[]⟩) := cell_at hz1 2
 have f2 : z.frozen? ⟨w.heap.size + 1, 2, none⟩ = false := by rw [frozen_at hz1]; simp
 have s3 : z.cell? ⟨w.heap.size + 1, 3, none⟩ = some (.int .i64 0) := cell_at hz1 3
 have f3 : z.frozen? ⟨w.heap.size + 1, 3, none⟩ = false := by rw [frozen_at hz1]; simp
 have s4 : z.cell? ⟨w.heap.size + 1, 4, none⟩ = some (.int .i64 0) := cell_at hz1 4
 have f4 : z.frozen? ⟨w.heap.size + 1, 4, none⟩ = false := by rw [frozen_at hz1]; simp
 have s5 : z.cell? ⟨w.heap.size + 1, 5, none⟩ = some (.string ⟨#[]⟩) := cell_at hz1 5
 have f5 : z.frozen? ⟨w.heap.size + 1, 5, none⟩ = false := by rw [frozen_at hz1]; simp
 have s6 : z.cell? ⟨w.heap.size + 1, 6, none⟩ = some (.slice none 0 0) := cell_at hz1 6
 have f6 : z.frozen? ⟨w.heap.size + 1, 6, none⟩ = false := by rw [frozen_at hz1]; simp
 clear hz1
 go_wp2
 have hz1 := hz1'.out
 have hF0 : Hid ((z.setCell ⟨w.heap.size + 1, 0, none⟩ (.bool r)).heap[w.heap.size + 1]? = some (.cells #[.bool r, .string ⟨#[]⟩, .string ⟨#[]⟩, .int .i64 0, .int .i64 0, .string ⟨#[]⟩, .slice none 0 0] 27)) := hide (hp_set hz1 0 (.bool r))
 have hF1 : Hid (((z.setCell ⟨w.heap.size + 1, 0, none⟩ (.bool r)).setCell ⟨w.heap.size + 1, 1, none⟩ (.string me)).heap[w.heap.size + 1]? = some (.cells #[.bool r, .string me, .string ⟨#[]⟩, .int .i64 0, .int .i64 0, .string ⟨#[]⟩, .slice none 0 0] 27)) := hide (hp_set hF0.out 1 (.string me))
 have hF2 : Hid ((((z.setCell ⟨w.heap.size + 1, 0, none⟩ (.bool r)).setCell ⟨w.heap.size + 1, 1, none⟩ (.string me)).setCell ⟨w.heap.size + 1, 2, none⟩ (.string ta)).heap[w.heap.size + 1]? = some (.cells #[.bool r, .string me, .string ta, .int .i64 0, .int .i64 0, .string ⟨#[]⟩, .slice none 0 0] 27)) := hide (hp_set hF1.out 2 (.string ta))
 have hF3 : Hid (((((z.setCell ⟨w.heap.size + 1, 0, none⟩ (.bool r)).setCell ⟨w.heap.size + 1, 1, none⟩ (.string me)).setCell ⟨w.heap.size + 1, 2, none⟩ (.string ta)).setCell ⟨w.heap.size + 1, 3, none⟩ (.int .i64 (mi : Int))).heap[w.heap.size + 1]? = some (.cells #[.bool r, .string me, .string ta, .int .i64 (mi : Int), .int .i64 0, .string ⟨#[]⟩, .slice none 0 0] 27)) := hide (hp_set hF2.out 3 (.int .i64 (mi : Int)))
 have hF4 : Hid ((((((z.setCell ⟨w.heap.size + 1, 0, none⟩ (.bool r)).setCell ⟨w.heap.size + 1, 1, none⟩ (.string me)).setCell ⟨w.heap.size + 1, 2, none⟩ (.string ta)).setCell ⟨w.heap.size + 1, 3, none⟩ (.int .i64 (mi : Int))).setCell ⟨w.heap.size + 1, 4, none⟩ (.int .i64 (st : Int))).heap[w.heap.size + 1]? = some (.cells #[.bool r, .string me, .string ta, .int .i64 (mi : Int), .int .i64 (st : Int), .string ⟨#[]⟩, .slice none 0 0] 27)) := hide (hp_set hF3.out 4 (.int .i64 (st : Int)))
 have hF5 : Hid (((((((z.setCell ⟨w.heap.size + 1, 0, none⟩ (.bool r)).setCell ⟨w.heap.size + 1, 1, none⟩ (.string me)).setCell ⟨w.heap.size + 1, 2, none⟩ (.string ta)).setCell ⟨w.heap.size + 1, 3, none⟩ (.int .i64 (mi : Int))).setCell ⟨w.heap.size + 1, 4, none⟩ (.int .i64 (st : Int))).setCell ⟨w.heap.size + 1, 5, none⟩ (.string re)).heap[w.heap.size + 1]? = some (.cells #[.bool r, .string me, .string ta, .int .i64 (mi : Int), .int .i64 (st : Int), .string re, .slice none 0 0] 27)) := hide (hp_set hF4.out 5 (.string re))
 have hF : Hid ((((((((z.setCell ⟨w.heap.size + 1, 0, none⟩ (.bool r)).setCell ⟨w.heap.size + 1, 1, none⟩ (.string me)).setCell ⟨w.heap.size + 1, 2, none⟩ (.string ta)).setCell ⟨w.heap.size + 1, 3, none⟩ (.int .i64 (mi : Int))).setCell ⟨w.heap.size + 1, 4, none⟩ (.int .i64 (st : Int))).setCell ⟨w.heap.size + 1, 5, none⟩ (.string re)).setCell ⟨w.heap.size + 1, 6, none⟩ (.slice va vl vc)).heap[w.heap.size + 1]? = some (.cells #[.bool r, .string me, .string ta, .int .i64 (mi : Int), .int .i64 (st : Int), .string re, .slice va vl vc] 27)) := hide (hp_set hF5.out 6 (.slice va vl vc))
 clear hF0 hF1 hF2 hF3 hF4 hF5
 have BF := hide (((((((zB.out.setCell (p := ⟨w.heap.size + 1, 0, none⟩) (by have := HBS.out; simp; omega) (.bool r)).setCell (p := ⟨w.heap.size + 1, 1, none⟩) (by have := HBS.out; simp; omega) (.string me)).setCell (p := ⟨w.heap.size + 1, 2, none⟩) (by have := HBS.out; simp; omega) (.string ta)).setCell (p := ⟨w.heap.size + 1, 3, none⟩) (by have := HBS.out; simp; omega) (.int .i64 (mi : Int))).setCell (p := ⟨w.heap.size + 1, 4, none⟩) (by have := HBS.out; simp; omega) (.int .i64 (st : Int))).setCell (p := ⟨w.heap.size + 1, 5, none⟩) (by have := HBS.out; simp; omega) (.string re)).setCell (p := ⟨w.heap.size + 1, 6, none⟩) (by have := HBS.out; simp; omega) (.slice va vl vc))
 have RF := hide (setAway (setAway (setAway (setAway (setAway (setAway (setAway RZ.out 0 (.bool r)) 1 (.string me)) 2 (.string ta)) 3 (.int .i64 (mi : Int))) 4 (.int .i64 (st : Int))) 5 (.string re)) 6 (.slice va vl vc))
 have KF := hide (Kept.set (Kept.set (Kept.set (Kept.set (Kept.set (Kept.set (Kept.set zK.out (g := w.heap.size + 1) (by omega) 0 (.bool r)) (g := w.heap.size + 1) (by omega) 1 (.string me)) (g := w.heap.size + 1) (by omega) 2 (.string ta)) (g := w.heap.size + 1) (by omega) 3 (.int .i64 (mi : Int))) (g := w.heap.size + 1) (by omega) 4 (.int .i64 (st : Int))) (g := w.heap.size + 1) (by omega) 5 (.string re)) (g := w.heap.size + 1) (by omega) 6 (.slice va vl vc))
 clear hz1 hz1'
 generalize (((((((z.setCell ⟨w.heap.size + 1, 0, none⟩ (.bool r)).setCell ⟨w.heap.size + 1, 1, none⟩ (.string me)).setCell ⟨w.heap.size + 1, 2, none⟩ (.string ta)).setCell ⟨w.heap.size + 1, 3, none⟩ (.int .i64 (mi : Int))).setCell ⟨w.heap.size + 1, 4, none⟩ (.int .i64 (st : Int))).setCell ⟨w.heap.size + 1, 5, none⟩ (.string re)).setCell ⟨w.heap.size + 1, 6, none⟩ (.slice va vl vc)) = w9 at hF BF RF KF |-
 clear s0 s1 s2 s3 s4 s5 s6 f0 f1 f2 f3 f4 f5 f6 r0 r1 r2 r3 r4 r5 r6
 have k0 : w9.cell? ⟨w.heap.size + 1, 0, none⟩ = some (.bool r) := cell_at hF.out 0
 have k1 : w9.cell? ⟨w.heap.size + 1, 1, none⟩ = some (.string me) := cell_at hF.out 1
 have k2 : w9.cell? ⟨w.heap.size + 1, 2, none⟩ = some (.string ta) := cell_at hF.out 2
 have k3 : w9.cell? ⟨w.heap.size + 1, 3, none⟩ = some (.int .i64 (mi : Int)) := cell_at hF.out 3
 have k4 : w9.cell? ⟨w.heap.size + 1, 4, none⟩ = some (.int .i64 (st : Int)) := cell_at hF.out 4
 have k5 : w9.cell? ⟨w.heap.size + 1, 5, none⟩ = some (.string re) := cell_at hF.out 5
 have k6 : w9.cell? ⟨w.heap.size + 1, 6, none⟩ = some (.slice va vl vc) := cell_at hF.out 6
 exact bodyPost_ret (v := .tuple #[.agg #[.bool r, .string me, .string ta, .int .i64 (mi : Int), .int .i64 (st : Int), .string re, .slice va vl vc], .bool false, .int .i64 (fe : Int)]) (by simp [results, Tryz.results32, go_sem, k0, k1, k2, k3, k4, k5, k6]) rfl ⟨.slice va vl vc, by rw [EE.out], RF.out.1, BF.out, KF.out⟩
theorem rline_field (X : Hx) (l : Value) (lines : Nat) (s : ByteArray) (w : World) (base : Nat) (hl : FRow w base l X.fs) (hb : base <= w.heap.size) (hs : s.size <= 8192) (h1 : X.me.size ≠ 0 ∨ X.st ≠ 0) (h4 : 0 < s.size) (h5 : X.fs.length <= 100) :
  Calls Tryz.prog 32 #[hxV X l, .int .i64 (lines : Int), .string s] w fun e w' => ∃ u, e = .returned (.tuple #[hxV ⟨X.r, X.me, X.ta, X.mi, X.st, X.re, X.fs ++ [fldR s]⟩ u, .bool false, .int .i64 (if fldE s = 0 /\ X.fs.length = 100 then 85 else fldE s : Nat)]) /\ FRow w' base u (X.fs ++ [fldR s]) /\ Below base w w' /\ Kept w w' l u := by
 by_cases hme : X.me.size = 0
 ·have h1' : X.me.size = 0 /\ X.st ≠ 0 := ⟨hme, h1.resolve_left (fun h => h hme)⟩
  by_cases he : fldE s = 0
  ·by_cases hn : X.fs.length = 100
   ·exact rline_fa1 X l lines s w base hl hb hs h1' h4 h5 ⟨he, hn⟩
   ·exact rline_fa2 X l lines s w base hl hb hs h1' h4 h5 ⟨he, hn⟩
  ·exact rline_fa3 X l lines s w base hl hb hs h1' h4 h5 he
 ·by_cases he : fldE s = 0
  ·by_cases hn : X.fs.length = 100
   ·exact rline_fb1 X l lines s w base hl hb hs hme h4 h5 ⟨he, hn⟩
   ·exact rline_fb2 X l lines s w base hl hb hs hme h4 h5 ⟨he, hn⟩
  ·exact rline_fb3 X l lines s w base hl hb hs hme h4 h5 he
theorem hrline_any {p : Pz} (hf : Fit p) (hw : p.whole = false) {lines : Nat} (hl : Ln p lines) (hl8 : lines <= 65536) (s : ByteArray) (hs : s.size <= 8192) (l : Value) (w : World) (base : Nat) (hr : FRow w base l p.fs) (hb : base <= w.heap.size) :
  Calls Tryz.prog 32 #[hxV p.hx l, .int .i64 ((lines + 1 : Nat) : Int), .string s] w fun e w' => ∃ X ua un uc, e = .returned (.tuple #[hxV X (.slice ua un uc), .bool (pLine p s).2.whole, .int .i64 ((pLine p s).1 : Int)]) /\ LnOk (pLine p s).1 X (pLine p s).2.hx (.slice ua un uc) w' base /\ Below base w w' /\ Kept w w' l (.slice ua un uc) := by
 obtain ⟨la, ln, lc, rfl⟩ : ∃ a n c, l = .slice a n c := by
  obtain ⟨a, c, h, _⟩ := hr.shape
  exact ⟨a, _, c, h⟩
 by_cases hn : p.fn = fnFld
 ·rw [line_fld hn]
  by_cases hz : s.size = 0
  ·have e : pFld p s = (0, { p with whole := true }) := by unfold pFld; rw [if_pos hz]
   rw [e]
   refine (rline_whole p.hx _ (lines + 1) s w base hr hb (hl.bg hn) hz).mono ?_
   rintro e w' ⟨rfl, h1, h2⟩
   exact ⟨_, _, _, _, rfl, fun _ => ⟨rfl, h1⟩, h2⟩
  ·have hwh := (line_end hf s).2 (fun h => hz h.2)
   rw [line_fld hn, hw] at hwh
   have hq := fld_eq p s (by omega)
   refine (rline_field p.hx _ (lines + 1) s w base hr hb hs (hl.bg hn) (by omega) hf.fs).mono ?_
   rintro e w' ⟨u, rfl, h1, h2⟩
   obtain ⟨ua, un, uc, rfl⟩ : ∃ a n c, u = .slice a n c := by
    obtain ⟨a, c, h, _⟩ := h1.shape
    exact ⟨a, _, c, h⟩
   refine ⟨_, ua, un, uc, by rw [hwh, hq.1]; rfl, fun h0 => ⟨?_, h1⟩, h2⟩
   rw [hq.2 h0]
   rfl
 ·have hwh := (line_end hf s).2 (fun h => hn h.1)
  rw [hw] at hwh
  obtain ⟨h1, h2, h3, h4, h5, h6, h7, h8⟩ := hl.nb hn
  by_cases hz : p.req = true /\ s.size = 0 /\ lines < 4
  ·rw [hz.1] at h1
   have e : pLine p s = (0, { p with passed := p.passed + 1 }) := by
    rw [line_req h1]
    unfold pReq
    rw [if_pos ⟨hz.2.1, by omega⟩]
   rw [e] at hwh |-
   refine (rline_pass p.hx _ (lines + 1) s w base hr hb (by omega) hz.1 h3 h6 hz.2.1 (by omega)).mono ?_
   rintro e w' ⟨rfl, h1, h2⟩
   exact ⟨_, _, _, _, by rw [hwh]; rfl, fun _ => ⟨rfl, h1⟩, h2⟩
  ·obtain ⟨e1, e2⟩ := first_hx hl hn s hz
   refine (rline_first p.hx _ (lines + 1) s w base hr hb hs (by omega) h3 h6 (fun h => hz ⟨h.1, h.2.1, by omega⟩)).mono ?_
   rintro e w' ⟨Y, rfl, hY, h2⟩
   refine ⟨Y, none, 0, 0, by rw [hwh, e1]; rfl, fun h0 => ?_, h2⟩
   have he : frE p.req s = 0 := e1.symm.trans h0
   have eY : Y = frH p.req s := hY.out he
   rw [(e2 he).1]
   refine ⟨eY, ?_⟩
   rw [eY]
   have ef : (frH p.req s).fs = [] := by unfold frH; split <;> rfl
   rw [ef]
   exact FRow.nil w' base
structure Rd (most : Nat) (l : List UInt8) (k fr lines : Nat) (q : Pz) : Prop where
 fit : Fit q
 ln : Ln q lines
 wh : q.whole = false
 most : q.most = most
 read : q.read = k
 lines : lines <= k
 len : fr + q.line.length + (if q.ending = true then 1 else 0) = k
 cells : ∀ j (h : j < q.line.length), l[fr + j]? = some q.line[j]
 cr : q.ending = true -> l[k - 1]? = some 13
 no : ∀ c ∈ q.line, c ≠ 13
theorem Rd.new (rq : Bool) (most : Nat) (hm : most <= 65536) (l : List UInt8) : Rd most l 0 0 0 (pNew rq most) := by
 refine ⟨fit_new rq most hm, ⟨fun _ => ⟨rfl, rfl, rfl, rfl, rfl, rfl, rfl, rfl⟩, fun h => ?_⟩, rfl, rfl, rfl, Nat.le_refl _, rfl, fun j h => absurd h (Nat.not_lt_zero _), fun h => (by cases h), fun c h => (by cases h)⟩
 exfalso
 cases rq with
 | true => exact fn_ner.1 h
 | false => exact fn_ner.2.1 h
theorem Rd.after0 {most : Nat} {l : List UInt8} {k fr lines : Nat} {q : Pz} (h : Rd most l k fr lines q) (hk : ¬ fr < k) : q.ending = false := by
 have := h.len
 cases he : q.ending with
 | false => rfl
 | true => rw [he, if_pos rfl] at this; omega
theorem Rd.after1 {most : Nat} {l : List UInt8} {k fr lines : Nat} {q : Pz} (h : Rd most l k fr lines q) (hk : fr < k) {c : UInt8} (hc : l[k - 1]? = some c) : decide (c = 13) = q.ending := by
 have hl := h.len
 cases he : q.ending with
 | true =>
  have := h.cr he
  rw [hc] at this
  simp only [Option.some.injEq] at this
  exact decide_eq_true this
 | false =>
  rw [he, if_neg (by simp)] at hl
  have hj : k - 1 - fr < q.line.length := by omega
  have h2 := h.cells (k - 1 - fr) hj
  rw [show fr + (k - 1 - fr) = k - 1 by omega, hc] at h2
  simp only [Option.some.injEq] at h2
  refine decide_eq_false fun e => h.no q.line[k - 1 - fr] (List.getElem_mem hj) (h2.symm.trans e)
theorem Rd.bare {most : Nat} {l : List UInt8} {k fr lines : Nat} {q : Pz} (_ : Rd most l k fr lines q) {c : UInt8} (hc : decide (c = 10) ≠ q.ending) : pNext q c = (81, q) := by
 unfold pNext
 rw [if_pos (fun e => hc e.symm)]
theorem Rd.large {most : Nat} {l : List UInt8} {k fr lines : Nat} {q : Pz} (h : Rd most l k fr lines q) {c : UInt8} (hc : decide (c = 10) = q.ending) (hk : most < k + 1) : pNext q c = (85, q) := by
 have h1 := h.fit.read
 have h2 := h.most
 have h3 := h.read
 unfold pNext
 rw [if_neg (fun e => e hc.symm), if_pos (by omega)]
theorem Rd.long {most : Nat} {l : List UInt8} {k fr lines : Nat} {q : Pz} (h : Rd most l k fr lines q) {c : UInt8} (hc : decide (c = 10) = q.ending) (hk : ¬ most < k + 1) (h10 : c ≠ 10) (h13 : c ≠ 13) (hL : 8192 < k - fr + 1) : (pNext q c).1 = 85 := by
 have h2 := h.most
 have h3 := h.read
 have h4 := h.len
 have h5 := h.fit.line
 have he : q.ending = false := by rw [<- hc]; exact decide_eq_false h10
 rw [he, if_neg (by simp)] at h4
 unfold pNext
 rw [if_neg (fun e => e hc.symm), if_neg (by omega), if_neg h13, if_neg h10, if_pos (by omega)]
theorem Rd.ret {most : Nat} {l : List UInt8} {k fr lines : Nat} {q : Pz} (h : Rd most l k fr lines q) (hc : q.ending = false) (hk : ¬ most < k + 1) (hl : l[k]? = some 13) : pNext q 13 = (0, { q with read := q.read + 1, ending := true }) /\ Rd most l (k + 1) fr lines { q with read := q.read + 1, ending := true } := by
 have h2 := h.most
 have h3 := h.read
 have h4 := h.len
 rw [hc, if_neg (by simp)] at h4
 have e : pNext q 13 = (0, { q with read := q.read + 1, ending := true }) := by
  unfold pNext
  rw [if_neg (by rw [hc]; simp), if_neg (by omega), if_pos rfl]
 refine ⟨e, ?_⟩
 have hF := h.fit.next 13
 rw [e] at hF
 refine ⟨hF, ⟨h.ln.nb, h.ln.bg⟩, h.wh, h.most, ?_, ?_, ?_, h.cells, fun _ => ?_, h.no⟩
 ·show q.read + 1 = k + 1
  omega
 ·have := h.lines; omega
 ·show fr + q.line.length + (if true = true then 1 else 0) = k + 1
  rw [if_pos rfl]; omega
 ·rw [Nat.add_sub_cancel]; exact hl
theorem Rd.char {most : Nat} {l : List UInt8} {k fr lines : Nat} {q : Pz} (h : Rd most l k fr lines q) (hc : q.ending = false) (hk : ¬ most < k + 1) {c : UInt8} (hl : l[k]? = some c) (h10 : c ≠ 10) (h13 : c ≠ 13) (hL : ¬ 8192 < k - fr + 1) : pNext q c = (0, { q with read := q.read + 1, line := q.line ++ [c] }) /\ Rd most l (k + 1) fr lines { q with read := q.read + 1, line := q.line ++ [c] } := by
 have h2 := h.most
 have h3 := h.read
 have h4 := h.len
 rw [hc, if_neg (by simp)] at h4
 have e : pNext q c = (0, { q with read := q.read + 1, line := q.line ++ [c] }) := by
  unfold pNext
  rw [if_neg (by rw [hc]; simp [h10]), if_neg (by omega), if_neg h13, if_neg h10, if_neg (by omega)]
 refine ⟨e, ?_⟩
 have hF := h.fit.next c
 rw [e] at hF
 refine ⟨hF, ⟨h.ln.nb, h.ln.bg⟩, h.wh, h.most, ?_, ?_, ?_, ?_, ?_, ?_⟩
 ·show q.read + 1 = k + 1
  omega
 ·have := h.lines; omega
 ·show fr + (q.line ++ [c]).length + (if q.ending = true then 1 else 0) = k + 1
  rw [hc, if_neg (by simp), List.length_append, List.length_singleton]; omega
 ·intro j hj
  show l[fr + j]? = some (q.line ++ [c])[j]
  by_cases hj2 : j < q.line.length
  ·rw [List.getElem_append_left hj2]; exact h.cells j hj2
  ·have hj3 : j < (q.line ++ [c]).length := hj
   rw [List.length_append, List.length_singleton] at hj3
   have ej : j = q.line.length := by omega
   subst ej
   rw [List.getElem_append_right (Nat.le_refl _), show fr + q.line.length = k by omega, hl]
   simp
 ·intro he
  have he2 : q.ending = true := he
  rw [hc] at he2
  cases he2
 ·intro d hd
  have hd2 : d ∈ q.line ++ [c] := hd
  rcases List.mem_append.1 hd2 with h5 | h5
  ·exact h.no d h5
  ·rw [List.mem_singleton.1 h5]; exact h13
def Pz.lf (q : Pz) : Pz := { q with read := q.read + 1, ending := false, line := [] }
theorem Rd.lfq {most : Nat} {l : List UInt8} {k fr lines : Nat} {q : Pz} (h : Rd most l k fr lines q) (hc : q.ending = true) (hk : ¬ most < k + 1) : pNext q 10 = pLine q.lf (sS q.line) /\ Fit q.lf /\ q.lf.whole = false /\ Ln q.lf lines := by
 have h1 := h.fit.read
 have h2 := h.most
 have h3 := h.read
 refine ⟨?_, ⟨h.fit.fn, h.fit.most, ?_, Nat.zero_le _, h.fit.passed, h.fit.fs⟩, h.wh, ⟨h.ln.nb, h.ln.bg⟩⟩
 ·unfold pNext
  rw [if_neg (by rw [hc]; simp), if_neg (by omega), if_neg (by decide), if_pos rfl]
  rfl
 ·show q.read + 1 <= q.most
  omega
theorem Rd.line {most : Nat} {l : List UInt8} {k fr lines : Nat} {q : Pz} (h : Rd most l k fr lines q) (hc : q.ending = true) (hk : ¬ most < k + 1) (h0 : (pLine q.lf (sS q.line)).1 = 0) (hw : (pLine q.lf (sS q.line)).2.whole = false) : Rd most l (k + 1) (k + 1) (lines + 1) (pLine q.lf (sS q.line)).2 := by
 obtain ⟨_, h2, h3, h4⟩ := h.lfq hc hk
 have hF : Fit (pLine q.lf (sS q.line)).2 := Fit.ok h2 (ok_line _ _ h2.fs)
 have hO := ok_line q.lf (sS q.line) h2.fs
 have eL : (pLine q.lf (sS q.line)).2.line = [] := hO.line
 have eE : (pLine q.lf (sS q.line)).2.ending = false := (line_end h2 _).1
 refine ⟨hF, ln_line h4 _ h0 hw, hw, hO.most.trans h.most, hO.read.trans ?_, ?_, ?_, ?_, ?_, ?_⟩
 ·show q.read + 1 = k + 1
  rw [h.read]
 ·have := h.lines; omega
 ·rw [eL, eE]; simp
 ·intro j hj
  rw [eL] at hj
  exact absurd hj (Nat.not_lt_zero _)
 ·intro he
  rw [eE] at he
  cases he
 ·intro c hc
  rw [eL] at hc
  cases hc
theorem Rd.text {most : Nat} {l : List UInt8} {k fr lines : Nat} {q : Pz} (h : Rd most l k fr lines q) (hc : q.ending = true) (W : World) (b o cap : Nat) (hcell : ∀ j (hj : j < l.length), W.cell? ⟨b, o + j, none⟩ = some (.int .u8 (l[j].toNat : Int))) :
  (convert 24 9 (.slice (some ⟨b, o + fr, none⟩) (k - 1 - fr) cap)).run Tryz.prog W = .ok (.string (sS q.line)) W := by
 have hl := h.len
 rw [hc, if_pos rfl] at hl
 have e : k - 1 - fr = q.line.length := by omega
 rw [e]
 refine run_convert_bytes_back W 24 9 5 ⟨b, o + fr, none⟩ cap q.line Tryz.underlying24 Tryz.underlying5 Tryz.underlying9 (fun j hj => ?_)
 have h2 := h.cells j hj
 obtain ⟨hlt, h3⟩ := List.getElem?_eq_some_iff.1 h2
 have e2 : (⟨b, o + fr, none⟩ : Addr).add j = ⟨b, o + (fr + j), none⟩ := by unfold Addr.add; simp [Nat.add_assoc]
 rw [e2, hcell _ hlt, h3]
def Byt (W : World) (b o : Nat) (l : List UInt8) : Prop := ∀ j (hj : j < l.length), W.cell? ⟨b, o + j, none⟩ = some (.int .u8 (l[j].toNat : Int))
theorem Byt.keep {W W' : World} {b o base : Nat} {l : List UInt8} (h : Byt W b o l) (hb : Below base W W') (hl : b < base) : Byt W' b o l := fun j hj => (hb.cell (p := ⟨b, o + j, none⟩) hl).trans (h j hj)
theorem Bl.keep {w x y : World} {L : List (Array Value × TypeId)} (h : Bl w x L) (hb : Below (w.heap.size + L.length) x y) : Bl w y L :=
 ⟨fun i c t hi => (hb.block _ (by have := (List.getElem?_eq_some_iff.1 hi).1; omega)).trans (h.hp i c t hi), h.b.trans (hb.mono (Nat.le_add_right _ _))⟩
end Go.Proofs.YtecjlcjaccijpaaGreatDoor
