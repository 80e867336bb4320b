/- Whether a match takes a request: the program's, the document's. -/
import Derived.Test.YthbhkgdijoiceaaDoorRMeth
namespace Go.Proofs.YthbhkgdijoiceaaDoor
open Go.ChangeShapes Go.WideShapes Go.ChangeAt Go.RowKit

def hdC (r : Bool) (me ta : ByteArray) (mi st : Int) (re : ByteArray) (l : Value) : Array Value := #[.bool r, .string me, .string ta, .int .i64 mi, .int .i64 st, .string re, l]
def takB (ho pf : ByteArray) (M : List ByteArray) (hd va me : ByteArray) (A : List (ByteArray × ByteArray)) (host path : ByteArray) : Bool := decide (hostK ho host ≠ 0) && (covB pf path && (methB M me && fldB A hd va))
set_option maxHeartbeats 2000000 in
theorem takes_any (w : World) (ho pf : ByteArray) (ml : Value) (M : List ByteArray) (hd va : ByteArray) (r : Bool) (me ta : ByteArray) (mi st : Int) (re : ByteArray) (l : Value) (A : List (ByteArray × ByteArray)) (host path : ByteArray)
    (hM : SRow w ml M) (hMl : M.length ≤ 1048576) (hA : Flds w l A) (hs : Sm A) (hho : ho.size ≤ 1048576) (hpf : pf.size ≤ 1048576) (hhd : hd.size ≤ 1048576) (hhost : host.size ≤ 1048576) :
    Calls Tryd.prog 8 #[.agg (mtC ho pf ml hd va), .agg (hdC r me ta mi st re l), .string host, .string path] w fun e w' => e = .returned (.bool (takB ho pf M hd va me A host path)) ∧ Below w.heap.size w w' := by
  have H1 := hide (fun W => thost_any ho host W (by omega) (by omega))
  have H2 := hide (fun W => cov_any pf path W (by omega))
  have H3 := hide (fun W h => tmeth_any W ml M me h (by omega))
  have M0 := hide hM
  have F0 := hide hA
  obtain ⟨a1, c1, rfl, _⟩ := hM
  have H4 := hide (fun W h => tflds_any W ho pf a1 M.length c1 hd va l A h hs hhd)
  obtain ⟨a0, c0, rfl, _, _⟩ := hA
  unfold takB hdC
  unfold mtC at H4 ⊢
  generalize decide (hostK ho host ≠ 0) = b1 at H1 ⊢
  generalize covB pf path = b2 at H2 ⊢
  generalize methB M me = b3 at H3 ⊢
  generalize fldB A hd va = b4 at H4 ⊢
  clear hs hho hpf hhd hhost hMl
  go_enter Tryd.func8, Tryd.ntmps8
  go_wp2_with fail
  have T0 := hide (Bl.two w #[.string ho, .string pf, .slice a1 M.length c1, .string hd, .string va] 34 #[.bool r, .string me, .string ta, .int .i64 mi, .int .i64 st, .string re, .slice a0 A.length c0] 24)
  generalize ((w.alloc (.cells #[.string ho, .string pf, .slice a1 M.length c1, .string hd, .string va] 34)).alloc (.cells #[.bool r, .string me, .string ta, .int .i64 mi, .int .i64 st, .string re, .slice a0 A.length c0] 24)) = x at T0 ⊢
  refine (H1.out _).mono ?_
  rintro e w1 ⟨rfl, bb⟩
  have T1 := hide (T0.out.below bb)
  clear bb T0 H1
  have m0 : w1.cell? ⟨w.heap.size, 0, none⟩ = some (.string ho) := T1.out.cell 0 rfl 0
  have m1 : w1.cell? ⟨w.heap.size, 1, none⟩ = some (.string pf) := T1.out.cell 0 rfl 1
  have m2 : w1.cell? ⟨w.heap.size, 2, none⟩ = some (.slice a1 M.length c1) := T1.out.cell 0 rfl 2
  have m3 : w1.cell? ⟨w.heap.size, 3, none⟩ = some (.string hd) := T1.out.cell 0 rfl 3
  have m4 : w1.cell? ⟨w.heap.size, 4, none⟩ = some (.string va) := T1.out.cell 0 rfl 4
  have n1 : w1.cell? ⟨w.heap.size + 1, 1, none⟩ = some (.string me) := T1.out.cell 1 rfl 1
  have n6 : w1.cell? ⟨w.heap.size + 1, 6, none⟩ = some (.slice a0 A.length c0) := T1.out.cell 1 rfl 6
  cases b1
  · go_wp2
    go_ret
    exact ⟨rfl, T1.out.b⟩
  · go_wp2_with fail
    refine (H2.out _).mono ?_
    rintro e w2 ⟨rfl, rfl⟩
    clear H2
    cases b2
    · go_wp2
      go_ret
      exact ⟨rfl, T1.out.b⟩
    · go_wp2_with fail
      refine (H3.out _ (M0.out.below T1.out.b)).mono ?_
      rintro e w2 ⟨rfl, rfl⟩
      clear H3
      cases b3
      · go_wp2
        go_ret
        exact ⟨rfl, T1.out.b⟩
      · go_wp2_with fail
        refine (H4.out _ (F0.out.below T1.out.b)).mono ?_
        rintro e w2 ⟨rfl, bb⟩
        have T2 := hide (T1.out.below bb)
        clear bb H4
        go_wp2
        go_ret
        exact ⟨rfl, T2.out.b⟩
end Go.Proofs.YthbhkgdijoiceaaDoor
