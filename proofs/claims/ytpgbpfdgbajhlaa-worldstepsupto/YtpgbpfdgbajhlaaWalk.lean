/- A world's calls upon one connection, as far as its own block goes. -/
import Derived.Test.YtpgbpfdgbajhlaaFind
import Derived.Deep.RegionLaw
namespace Go.Proofs.Ytpgbpfdgbajhlaa
open Go.ChangeShapes Go.WideShapes Go.ChangeAt Go.RowKit

theorem add_zero (x : Addr) : x.add 0 = x := by
  cases x with
  | mk b o s => cases s <;> simp [Addr.add]
theorem slice_to {W : World} {t e : TypeId} (ht : Try.prog.underlying t = some (.slice e)) {i : TypeInfo} (hi : Try.prog.info? e = some i) (a : Option Addr) (len cap n : Nat) (h : n ≤ cap) :
    (Instr.slice t (.slice a len cap) none (some (.int .i64 n)) none).run Try.prog W = .ok (.slice a n cap) W := by
  cases a <;> simp [Instr.slice, Instr.sliceBounds, Instr.sliceBound, asIntOf, run_underlying ht, sizeOf, typeInfo, hi, h, add_zero]
theorem slice_from {W : World} {t e : TypeId} (ht : Try.prog.underlying t = some (.slice e)) {i : TypeInfo} (hi : Try.prog.info? e = some i) (hs1 : i.size = 1) (b off len cap n : Nat) (h : n ≤ len) :
    (Instr.slice t (.slice (some ⟨b, off, none⟩) len cap) (some (.int .i64 n)) none none).run Try.prog W = .ok (.slice (some (if cap = n then ⟨b, off, none⟩ else ⟨b, off + n, none⟩)) (len - n) (cap - n)) W := by
  by_cases hc : cap = n
  · subst hc
    simp [Instr.slice, Instr.sliceBounds, Instr.sliceBound, asIntOf, run_underlying ht, sizeOf, typeInfo, hi, h]
  · simp [Instr.slice, Instr.sliceBounds, Instr.sliceBound, asIntOf, run_underlying ht, sizeOf, typeInfo, hi, hs1, h, hc, Addr.add_lit]
def ReadPost (W : World) (b : Nat) (n : Int) (a : Option Addr) (l : List Int) (cap : Nat) (e : Ending) (W' : World) : Prop :=
  ∃ v' go W1 m, m = (max (min n (l.length : Int)) 0).toNat ∧ e = .returned (.tuple #[v', .int .i64 0]) ∧ Row W1 .u8 v' (l.take m) go ∧ Fr (fun _ => False) W W1 ∧ (∀ g, go = some g → W.heap.size ≤ g) ∧
    W' = W1.setCell ⟨b, 0, none⟩ (.slice (if cap = m then a else a.map (·.add m)) (l.length - m) (cap - m))
theorem readPost {W : World} {b : Nat} {n : Int} {a : Option Addr} {l : List Int} {cap : Nat} {v' : Value} {go : Option Nat} {W1 : World} {m0 : Nat} (m : Nat) (h : Hid (Row W1 .u8 v' (l.take m0) go ∧ Fr (fun _ => False) W W1 ∧ (∀ g, go = some g → W.heap.size ≤ g)))
    (h0 : m0 = m) (hm : m = (max (min n (l.length : Int)) 0).toNat) {a' : Option Addr} {x y : Nat} (ha : a' = if cap = m then a else a.map (·.add m)) (hx : x = l.length - m) (hy : y = cap - m) :
    ReadPost W b n a l cap (.returned (.tuple #[v', .int .i64 0])) (W1.setCell ⟨b, 0, none⟩ (.slice a' x y)) := by
  subst ha hx hy h0
  exact ⟨v', go, W1, _, hm, rfl, h.out.1, h.out.2.1, h.out.2.2, rfl⟩
theorem read_x (W : World) (c b : Nat) (num n : Int) (a : Option Addr) (l : List Int) (cap : Nat) (hf : Hid (Calls Try.prog 36 #[.pointer (some ⟨c, 0, none⟩), .int .i64 num] W fun e W' => e = .returned (.pointer (some ⟨b, 0, none⟩)) ∧ W = W'))
   (c2 : W.cell? ⟨b, 0, none⟩ = some (.slice a l.length cap)) (hc : l.length ≤ cap)
   (hcl : Hid (∀ m, m ≤ l.length → Calls Try.prog 38 #[.slice a m cap] W fun e W' => ∃ v' go, e = .returned v' ∧ Hid (Row W' .u8 v' (l.take m) go ∧ Fr (fun _ => False) W W' ∧ (∀ g, go = some g → W.heap.size ≤ g)) ∧ W'.cell? ⟨b, 0, none⟩ = some (.slice a l.length cap) ∧ W'.frozen? ⟨b, 0, none⟩ = false)) :
    Calls Try.prog 20 #[.pointer (some ⟨c, 0, none⟩), .int .i64 num, .int .i64 n] W fun e W' => ReadPost W b n a l cap e W' := by
  go_enter Try.func20, Try.ntmps20
  go_wp2_with (first | (go_at_call 36; refine hf.out.mono ?_; rintro e w' ⟨rfl, rfl⟩) | (go_at_call 38; refine (hcl.out _ (by omega)).mono ?_; rintro e w' ⟨v', go, rfl, hR, hc2, hf2⟩))
  all_goals go_ret2
  · exact readPost 0 hR (by omega) (by omega) (by cases a <;> simp [add_zero]) (by omega) (by omega)
  · exact readPost l.length hR (by omega) (by omega) (by simp) (by omega) (by omega)
  · exact readPost l.length hR (by omega) (by omega) (by rw [if_neg h]) (by omega) (by omega)
  · exact readPost n.toNat hR (by omega) (by omega) (by simp) (by omega) (by omega)
  · exact readPost n.toNat hR (by omega) (by omega) (by rw [if_neg h]) (by omega) (by omega)
def RoomPost (W : World) (b : Nat) (r : Int) (W' : World) : Prop := W' = (W.setCell ⟨b, 2, none⟩ (.int .i64 r)).drew
theorem roomPost {W : World} {b : Nat} {r r' : Int} (h : r' = r) : RoomPost W b r (W.setCell ⟨b, 2, none⟩ (.int .i64 r')).drew := by rw [h]; rfl
theorem room_x (W : World) (c b : Nat) (num n rm : Int) (hf : Hid (Calls Try.prog 36 #[.pointer (some ⟨c, 0, none⟩), .int .i64 num] W fun e W' => e = .returned (.pointer (some ⟨b, 0, none⟩)) ∧ W = W'))
   (c2 : W.cell? ⟨b, 2, none⟩ = some (.int .i64 rm)) (f2 : W.frozen? ⟨b, 2, none⟩ = false) (h0 : 0 ≤ rm) (h1 : rm ≤ 1048576) (hn : 0 ≤ n) :
    Calls Try.prog 21 #[.pointer (some ⟨c, 0, none⟩), .int .i64 num, .int .i64 n] W fun e W' => e = .returned (.int .i64 0) ∧ RoomPost W b (min 1048576 (rm + n)) W' := by
  go_enter Try.func21, Try.ntmps21
  go_wp2_with (go_at_call 36; refine hf.out.mono ?_; rintro e w' ⟨rfl, rfl⟩)
  go_region
  go_wp2
  all_goals
    go_ret
    exact ⟨rfl, roomPost (by omega)⟩
theorem room_bad (W : World) (c b : Nat) (num n : Int) (hf : Hid (Calls Try.prog 36 #[.pointer (some ⟨c, 0, none⟩), .int .i64 num] W fun e W' => e = .returned (.pointer (some ⟨b, 0, none⟩)) ∧ W = W')) (hn : n < 0) :
    Calls Try.prog 21 #[.pointer (some ⟨c, 0, none⟩), .int .i64 num, .int .i64 n] W fun e W' => e = .returned (.int .i64 1) ∧ W = W' := by
  go_enter Try.func21, Try.ntmps21
  go_wp2_with (go_at_call 36; refine hf.out.mono ?_; rintro e w' ⟨rfl, rfl⟩)
  go_ret
  exact ⟨rfl, rfl⟩
theorem waits_x (W : World) (c b : Nat) (num : Int) (a : Option Addr) (len cap : Nat) (en : Bool) (hf : Hid (Calls Try.prog 36 #[.pointer (some ⟨c, 0, none⟩), .int .i64 num] W fun e W' => e = .returned (.pointer (some ⟨b, 0, none⟩)) ∧ W = W'))
   (c0 : W.cell? ⟨b, 0, none⟩ = some (.slice a len cap)) (c1 : W.cell? ⟨b, 1, none⟩ = some (.bool en)) :
    Calls Try.prog 10 #[.pointer (some ⟨c, 0, none⟩), .int .i64 num] W fun e W' => e = .returned (.tuple #[.int .i64 len, .bool en]) ∧ ∃ k, W.drewN k = W' := by
  go_enter Try.func10, Try.ntmps10
  go_wp2_with (go_at_call 36; refine hf.out.mono ?_; rintro e w' ⟨rfl, rfl⟩)
  go_quiet (fail)
  go_wp2
  go_ret2
  exact ⟨rfl, _, rfl⟩
theorem Row.shape {W : World} {q : IntKind} {v : Value} {l : List Int} {go : Option Nat} (h : Row W q v l go) : ∃ a n c, v = .slice a n c := by
  rcases h with ⟨_, rfl, _⟩ | ⟨g, off, cap, _, rfl, _⟩ <;> exact ⟨_, _, _, rfl⟩
theorem arrive_ended (W : World) (c b : Nat) (num : Int) (src : Value) (hf : Hid (Calls Try.prog 36 #[.pointer (some ⟨c, 0, none⟩), .int .i64 num] W fun e W' => e = .returned (.pointer (some ⟨b, 0, none⟩)) ∧ W = W'))
   (c1 : W.cell? ⟨b, 1, none⟩ = some (.bool true)) :
    Calls Try.prog 19 #[.pointer (some ⟨c, 0, none⟩), .int .i64 num, src] W fun e W' => e = .returned (.int .i64 7) ∧ W = W' := by
  go_enter Try.func19, Try.ntmps19
  go_wp2_with (go_at_call 36; refine hf.out.mono ?_; rintro e w' ⟨rfl, rfl⟩)
  go_ret
  exact ⟨rfl, rfl⟩
theorem arrive_long (W : World) (c b : Nat) (num : Int) (a a' : Option Addr) (len cap len' cap' : Nat) (hf : Hid (Calls Try.prog 36 #[.pointer (some ⟨c, 0, none⟩), .int .i64 num] W fun e W' => e = .returned (.pointer (some ⟨b, 0, none⟩)) ∧ W = W'))
   (c0 : W.cell? ⟨b, 0, none⟩ = some (.slice a len cap)) (c1 : W.cell? ⟨b, 1, none⟩ = some (.bool false)) (hl : len ≤ 1048576) (hl' : len' ≤ 140737488355328) (h : 1048576 < len + len') :
    Calls Try.prog 19 #[.pointer (some ⟨c, 0, none⟩), .int .i64 num, .slice a' len' cap'] W fun e W' => e = .returned (.int .i64 2) ∧ W = W' := by
  go_enter Try.func19, Try.ntmps19
  go_wp2_with (go_at_call 36; refine hf.out.mono ?_; rintro e w' ⟨rfl, rfl⟩)
  go_ret
  exact ⟨rfl, rfl⟩
theorem arrive_x (W : World) (c b : Nat) (num : Int) (a a' : Option Addr) (l X : List Int) (cap cap' : Nat) (go : Option Nat) (hf : Hid (Calls Try.prog 36 #[.pointer (some ⟨c, 0, none⟩), .int .i64 num] W fun e W' => e = .returned (.pointer (some ⟨b, 0, none⟩)) ∧ W = W'))
   (c0 : W.cell? ⟨b, 0, none⟩ = some (.slice a l.length cap)) (c1 : W.cell? ⟨b, 1, none⟩ = some (.bool false)) (h : l.length + X.length ≤ 1048576)
   (hR : Hid (Row W .u8 (.slice a l.length cap) l go)) (hX : Hid (Sl W .u8 (.slice a' X.length cap') X)) (hk : Hid (∀ W', W.grownBy W' go → (W'.cell? ⟨b, 0, none⟩).isSome = true ∧ W'.frozen? ⟨b, 0, none⟩ = false)) :
    Calls Try.prog 19 #[.pointer (some ⟨c, 0, none⟩), .int .i64 num, .slice a' X.length cap'] W fun e W' => e = .returned (.int .i64 0) ∧ ∃ v' W1 go', Row W1 .u8 v' (l ++ X) go' ∧ W.grownBy W1 go ∧ (go' = go ∨ ∃ g, go' = some g ∧ W.heap.size ≤ g) ∧ W' = W1.setCell ⟨b, 0, none⟩ v' := by
  go_enter Try.func19, Try.ntmps19
  go_wp2_with (first
    | (go_at_call 36; refine hf.out.mono ?_; rintro e w' ⟨rfl, rfl⟩)
    | (at_builtin; refine wpList_append_bytes rfl _ _ rfl _ (.slice a l.length cap) (.slice a' X.length cap') l X go rfl rfl hR.out hX.out (by omega) ?_
       intro v' W1 go' h1 h2 h3
       obtain ⟨k1, k2⟩ := hk.out W1 h2
       obtain ⟨a1, n1, d1, rfl⟩ := h1.shape
       obtain ⟨u, k1⟩ := Option.isSome_iff_exists.1 k1
       replace h1 := hide h1
       replace h2 := hide h2
       replace h3 := hide h3)
    | go_in)
  go_ret
  exact ⟨rfl, _, _, _, h1.out, h2.out, h3.out, rfl⟩
/-- append in a region that draws its order, where its run is known. -/
theorem step_append_is {P : Program} {ops : Array Oper} {o : Oper} {a : Act} {w w' : World} {K : Act → World → Prop} {Q : Exit → Act → World → Prop} {E : Prop}
    (hg : o.guard = none) (s x : Operand) (t : TypeId) (hop : o.op = Op.call { callee := Callee.builtin Builtin.append, args := #[s, x], argTypes := #[t, t] }) (v src v' : Value) (hs : a.eval s = v) (hx : a.eval x = src)
    (hrun : Hid ((Builtin.append_ #[t, t] o.type #[v, src]).run P w = .ok v' w')) (hK : K (a.put o.dst v') w') : if Region.wanted o (yielded ops a.tmps) = true then Oper.wp P o a w K Q else E := by
  have hw : Region.wanted o (yielded ops a.tmps) = true := by simp [Region.wanted, hg]
  rw [if_pos hw]
  unfold Oper.wp
  simp only [execOp, hop, resolve, invoke, builtin, Sem.run_bind, Sem.run_pure, Result.andThen_ok, List.map_toArray, List.map_cons, List.map_nil, hs, hx, hrun.out]
  exact hK
def WritePost (W1 : World) (b : Nat) (v : Value) (r : Int) (W' : World) : Prop := W' = (W1.setCell ⟨b, 3, none⟩ v).setCell ⟨b, 2, none⟩ (.int .i64 r)
theorem writePost {W1 : World} {b : Nat} {v : Value} {r r' : Int} (h : r' = r) : WritePost W1 b v r ((W1.setCell ⟨b, 3, none⟩ v).setCell ⟨b, 2, none⟩ (.int .i64 r')) := by rw [h]; rfl
theorem write_x (W W1 : World) (c b n1 d1 : Nat) (num rm : Int) (m : Int) (a a' a1 : Option Addr) (l X : List Int) (cap cap' : Nat) (hf : Hid (Calls Try.prog 36 #[.pointer (some ⟨c, 0, none⟩), .int .i64 num] W fun e W' => e = .returned (.pointer (some ⟨b, 0, none⟩)) ∧ W = W'))
   (c2 : W.cell? ⟨b, 2, none⟩ = some (.int .i64 rm)) (c3 : W.cell? ⟨b, 3, none⟩ = some (.slice a l.length cap)) (hr0 : 0 ≤ rm) (hr1 : rm ≤ 1048576) (hcap : X.length ≤ cap') (hm : m = min (X.length : Int) rm)
   (happ : Hid ((Builtin.append_ #[30, 30] 30 #[.slice a l.length cap, .slice a' m.toNat cap']).run Try.prog W.drew = .ok (.slice a1 n1 d1) W1))
   (c13 : W1.cell? ⟨b, 3, none⟩ = some (.slice a l.length cap)) (f13 : W1.frozen? ⟨b, 3, none⟩ = false) (c12 : W1.cell? ⟨b, 2, none⟩ = some (.int .i64 rm)) (f12 : W1.frozen? ⟨b, 2, none⟩ = false) :
    Calls Try.prog 22 #[.pointer (some ⟨c, 0, none⟩), .int .i64 num, .slice a' X.length cap'] W fun e W' => e = .returned (.tuple #[.int .i64 m, .int .i64 0]) ∧ WritePost W1 b (.slice a1 n1 d1) (rm - m) W' := by
  by_cases hlt : rm < X.length
  · obtain rfl : m = rm := by omega
    clear hm
    have hle : m ≤ cap' := by omega
    go_enter Try.func22, Try.ntmps22
    go_wp2_with (go_at_call 36; refine hf.out.mono ?_; rintro e w' ⟨rfl, rfl⟩)
    go_region_law (refine step_append_is rfl (.tmp 26) (.tmp 29) 30 rfl (.slice a l.length cap) (.slice a' m.toNat cap') (.slice a1 n1 d1) (by simp [Act.eval]) (by simp [Act.eval]) happ ?_)
    go_wp2
    go_ret2
    exact ⟨rfl, writePost (by omega)⟩
  · obtain rfl : m = X.length := by omega
    clear hm
    rw [Int.toNat_natCast] at happ
    have hge : (X.length : Int) ≤ rm := by omega
    go_enter Try.func22, Try.ntmps22
    go_wp2_with (go_at_call 36; refine hf.out.mono ?_; rintro e w' ⟨rfl, rfl⟩)
    go_region_law (refine step_append_is rfl (.tmp 26) (.tmp 29) 30 rfl (.slice a l.length cap) (.slice a' X.length cap') (.slice a1 n1 d1) (by simp [Act.eval]) (by simp [Act.eval]) happ ?_)
    go_wp2
    go_ret2
    exact ⟨rfl, writePost (by omega)⟩
theorem close_x (W W1 W2 : World) (c b bo bc : Nat) (num : Int) (a : Option Addr) (len cap : Nat) (hf : Hid (Calls Try.prog 36 #[.pointer (some ⟨c, 0, none⟩), .int .i64 num] W fun e W' => e = .returned (.pointer (some ⟨b, 0, none⟩)) ∧ W = W'))
   (c1 : W.cell? ⟨c, 1, none⟩ = some (.map (some bc))) (c3 : W.cell? ⟨b, 3, none⟩ = some (.slice a len cap))
   (hup : (Instr.mapUpdate 59 (.map (some bc)) (.int .i64 num) (.slice a len cap)).run Try.prog W.drew = .ok () W1)
   (c0 : W1.cell? ⟨c, 0, none⟩ = some (.map (some bo)))
   (hdel : (Builtin.delete_ #[58, 3] 0 #[.map (some bo), .int .i64 num]).run Try.prog W1 = .ok (.tuple #[]) W2) :
    Calls Try.prog 25 #[.pointer (some ⟨c, 0, none⟩), .int .i64 num] W fun e W' => e = .returned (.int .i64 0) ∧ W' = W2 := by
  go_enter Try.func25, Try.ntmps25
  go_wp2_with (go_at_call 36; refine hf.out.mono ?_; rintro e w' ⟨rfl, rfl⟩)
  go_region
  go_wp2
  go_ret
  exact ⟨rfl, rfl⟩
end Go.Proofs.Ytpgbpfdgbajhlaa
