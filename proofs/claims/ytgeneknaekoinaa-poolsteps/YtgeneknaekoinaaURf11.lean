/- The document's pool: anew; two rows of acts held together. -/
import Derived.Test.YtgeneknaekoinaaURf10
namespace Go.Proofs.Ytgeneknaekoinaa
open Go.ChangeShapes Go.WideShapes Go.ChangeAt Go.RowKit
set_option linter.unusedVariables false

def r0 (c pe id li : Int) : Rm := ⟨c, pe, id, li, 0, [], [], []⟩
theorem QOk.new {c pe id li : Int} (h : okN c pe id li) : QOk (r0 c pe id li) 0 := by
  obtain ⟨⟨a, b⟩, ⟨c, d⟩, ⟨e, f⟩, g, i⟩ := h
  exact ⟨e, f, g, i, by unfold r0; simp, by unfold r0; simp, by unfold r0; simp, by unfold r0; simp, by unfold r0; simp, fun r hr => by unfold r0 at hr; simp at hr, fun r hr => by unfold r0 at hr; simp at hr⟩
set_option maxHeartbeats 1000000 in
theorem rnew_any (w : World) (c pe id li : Int) (h : okN c pe id li) :
    Calls Try.prog 9 #[.int .i64 c, .int .i64 pe, .int .i64 id, .int .i64 li] w fun e w' => e = .returned (.tuple #[.pointer (some ⟨w.heap.size, 0, none⟩), .int .i64 0]) ∧ Does (QX (r0 c pe id li) w.heap.size) none' w w' := by
  obtain ⟨⟨a0, a1⟩, ⟨b0, b1⟩, ⟨c0, c1⟩, d0, d1⟩ := h
  have T : Hid (Does (QX (r0 c pe id li) w.heap.size) none' w (w.alloc (rO (r0 c pe id li) (.slice none 0 0) (.slice none 0 0) (.slice none 0 0)))) := hide ⟨_, ⟨_, _, _, QT.mk ⟨hp_new _ _, Rw.nil _ _ _, Rw.nil _ _ _, Rw.nil _ _ _⟩ (by simp [Value.ownBlock]) (by simp [Value.ownBlock]) (by simp [Value.ownBlock]) (fun k hk => by simp [Value.ownBlock] at hk) (fun k hk => by simp [Value.ownBlock] at hk) (fun k hk => by simp [Value.ownBlock] at hk)⟩, Fr.alloc _ _ _, fun k hk => .inr (by rcases hk with x | x | x | x; omega; simp [Value.ownBlock] at x; simp [Value.ownBlock] at x; simp [Value.ownBlock] at x)⟩
  unfold rO at T
  conv at T => unfold r0
  go_enter Try.func9, Try.ntmps9
  go_wp2_with fail
  go_ret2
  unfold r0
  exact ⟨rfl, T.out⟩
theorem rnew_bad (w : World) (c pe id li : Int) (h : ¬ okN c pe id li) :
    Calls Try.prog 9 #[.int .i64 c, .int .i64 pe, .int .i64 id, .int .i64 li] w fun e w' => e = .returned (.tuple #[.pointer none, .int .i64 1]) ∧ w = w' := by
  by_cases q0 : c < 1
  · clear h; go_enter Try.func9, Try.ntmps9
    go_wp2
    go_ret2
    exact ⟨rfl, rfl⟩
  by_cases q1 : 64 < c
  · clear h; go_enter Try.func9, Try.ntmps9
    go_wp2
    go_ret2
    exact ⟨rfl, rfl⟩
  by_cases q2 : pe < 0
  · clear h; go_enter Try.func9, Try.ntmps9
    go_wp2
    go_ret2
    exact ⟨rfl, rfl⟩
  by_cases q3 : 64 < pe
  · clear h; go_enter Try.func9, Try.ntmps9
    go_wp2
    go_ret2
    exact ⟨rfl, rfl⟩
  by_cases q4 : id < 1
  · clear h; go_enter Try.func9, Try.ntmps9
    go_wp2
    go_ret2
    exact ⟨rfl, rfl⟩
  by_cases q5 : 1000000 < id
  · clear h; go_enter Try.func9, Try.ntmps9
    go_wp2
    go_ret2
    exact ⟨rfl, rfl⟩
  by_cases q6 : li < 1
  · clear h; go_enter Try.func9, Try.ntmps9
    go_wp2
    go_ret2
    exact ⟨rfl, rfl⟩
  have q7 : 1000000 < li := by
    have : ¬ li ≤ 1000000 := fun x => h ⟨⟨by omega, by omega⟩, ⟨by omega, by omega⟩, ⟨by omega, by omega⟩, by omega, x⟩
    omega
  clear h
  go_enter Try.func9, Try.ntmps9
  go_wp2
  go_ret2
  exact ⟨rfl, rfl⟩
/-! ### The law's: are two rows of acts the same? (Here: they are.) -/
theorem pact_cells {w : World} {v : Value} {L : List Ac} (h : Rw 49 3 w v L.length (fl encA L)) {i : Nat} {r : Ac} (hr : L[i]? = some r) : ∃ g off cap, v = .slice (some ⟨g, off, none⟩) L.length cap ∧ L.length ≤ cap ∧ cap ≤ 9223372036854775807 ∧ w.cell? ⟨g, off + i * 3, none⟩ = some (.int .i64 r.k) ∧ w.cell? ⟨g, off + i * 3 + 1, none⟩ = some (.int .i64 r.c) ∧ w.cell? ⟨g, off + i * 3 + 2, none⟩ = some (.int .i64 r.w) := by
  have hi : i < L.length := (List.getElem?_eq_some_iff.1 hr).1
  obtain ⟨g, off, cap, e, h1, h2, h3, h4, h5⟩ := h.at hi
  have k : ∀ j, j < 3 → w.cell? ⟨g, off + i * 3 + j, none⟩ = some (.int .i64 ((encA r).getD j 0)) := fun j hj => by
    rw [h3 j hj, fl_at (show ∀ a, (encA a).length = 3 from fun _ => rfl) L i j r hr hj]
  exact ⟨g, off, cap, e, h1, h2, k 0 (by omega), k 1 (by omega), k 2 (by omega)⟩
set_option maxHeartbeats 1000000 in
set_option maxRecDepth 100000 in
theorem acts_same (w : World) (v u : Value) (A : List Ac) (h : Rw 49 3 w v A.length (fl encA A)) (k : Rw 64 3 w u A.length (fl encA A)) (hl : A.length ≤ 1000) :
    Calls Try.prog 23 #[v, u] w fun e w' => e = .returned (.bool true) ∧ Fr none' w w' := by
  obtain ⟨a, ca, rfl, ha0, ha1⟩ := h.shape
  obtain ⟨b, cb, rfl, hb0, hb1⟩ := k.shape
  have HH := hide h
  have HK := hide k
  clear h k
  obtain ⟨n, Hn⟩ : ∃ n, Hid (A.length = n) := ⟨_, hide rfl⟩
  rw [Hn.out] at hl ha0 hb0 HH HK ⊢
  go_enter Try.func23, Try.ntmps23
  go_wp2_with fail
  go_loopw [13] (fun u wr => ∃ k : Nat, k ≤ n ∧ u = .int .i64 (k : Int) ∧ Hid (Fr none' w wr)) (fun u _ => n - (intOf u).toNat)
  case atStart => exact ⟨0, Nat.zero_le _, rfl, hide (Fr.refl _ _)⟩
  case round =>
    obtain ⟨k, hk, rfl, HF⟩ := hrel
    by_cases hlt : k < n
    · have hkl : k < A.length := by rw [Hn.out]; exact hlt
      have hr := get_ok hkl
      have HV : Hid (Rw 49 3 wr (.slice a n ca) A.length (fl encA A)) := hide (by rw [Hn.out]; exact HH.out.fr HF.out (fun _ _ x => x))
      have HU : Hid (Rw 64 3 wr (.slice b n cb) A.length (fl encA A)) := hide (by rw [Hn.out]; exact HK.out.fr HF.out (fun _ _ x => x))
      obtain ⟨g1, o1, c1, e, -, -, x0, x1, x2⟩ := pact_cells HV.out hr
      simp only [Value.slice.injEq] at e
      obtain ⟨rfl, -, rfl⟩ := e
      obtain ⟨g2, o2, c2, e, -, -, y0, y1, y2⟩ := ract_cells HU.out hr
      simp only [Value.slice.injEq] at e
      obtain ⟨rfl, -, rfl⟩ := e
      generalize A[k] = r at *
      have hli : (k : Int) < (n : Int) := by omega
      clear hr hkl HV HU
      obtain ⟨rk, rc, rw'⟩ := r
      dsimp only at x0 x1 x2 y0 y1 y2
      go_wp2_with fail
      go_quiet (fail)
      have HF2 := hide (HF.out.trans (Fr.drewN none' _ nq) (fun _ _ x => x))
      clear x0 x1 x2 y0 y1 y2
      generalize wr.drewN nq = w2 at *
      go_wp2_with fail
      go_roundw
      case rel => exact ⟨k + 1, by omega, by go_num, HF2⟩
      case measure => simp [intOf]; omega
    · obtain rfl : k = n := by omega
      go_wp2_with fail
      go_ret
      exact ⟨rfl, HF.out⟩
end Go.Proofs.Ytgeneknaekoinaa
