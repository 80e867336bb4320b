/- ChainWhole returns true for all marks and all steps whose bytes are together at most 1048576, and changes nothing that was there. -/
import Derived.Test.YtglhoihiaflmgabJoinWalk
import Derived.Maps.AppendAt
namespace Go.Proofs.Ytglhoihiaflmgab
open Go.ChangeShapes Go.WideShapes Go.ChangeAt Go.RowKit

/-- The step of number i of a row of steps at an address: its cells, and the bytes that its B reads as. -/
structure StepAt (w : World) (b off i : Nat) (kd n : Int) (a : Option Addr) (cap : Nat) (X : List Int) : Prop where
  c0 : w.cell? ⟨b, off + i * 3, none⟩ = some (.int .i64 kd)
  c1 : w.cell? ⟨b, off + i * 3 + 1, none⟩ = some (.int .i64 n)
  c2 : w.cell? ⟨b, off + i * 3 + 2, none⟩ = some (.slice a X.length cap)
  sl : Sl w (.slice a X.length cap) X
  lies : Lies (.slice a X.length cap) (fun i => i < w.heap.size)
  by' : Bytes X
  len : X.length ≤ 9223372036854775807
  inb : b < w.heap.size

theorem StepAt.frame {w w' : World} {b off i : Nat} {kd n : Int} {a : Option Addr} {cap : Nat} {X : List Int} (h : StepAt w b off i kd n a cap X) (f : Fr (fun i => w.heap.size ≤ i) w w') : StepAt w' b off i kd n a cap X := by
  have hb : w'.heap[b]? = w.heap[b]? := f.block b h.inb (by have := h.inb; omega)
  exact ⟨(World.cell?_of_block (a := ⟨b, off + i * 3, none⟩) hb).trans h.c0, (World.cell?_of_block (a := ⟨b, off + i * 3 + 1, none⟩) hb).trans h.c1, (World.cell?_of_block (a := ⟨b, off + i * 3 + 2, none⟩) hb).trans h.c2,
    h.sl.cellsEq (fun b off n c e hn => f.block b (h.lies b off n c e hn) (by have := h.lies b off n c e hn; omega)), fun b off n c e hn => Nat.lt_of_lt_of_le (h.lies b off n c e hn) f.size, h.by', h.len, Nat.lt_of_lt_of_le h.inb f.size⟩

theorem append_bytes_at (W : World) (base : Nat) (ty : TypeId) (v src : Value) (l X : List Int) (hown : Own W base v l) (hsrc : Sl W src X) (hn : l.length + X.length ≤ 140737488355328) (hbase : base ≤ W.heap.size) :
    ∃ v' W', (Builtin.append_ #[33, 33] ty #[v, src]).run Try.prog W = .ok v' W' ∧ Own W' base v' (l ++ X) ∧ W.grownBy W' v.ownBlock ∧ (v'.ownBlock = v.ownBlock ∨ v'.ownBlock = some W.heap.size) := by
  obtain ⟨i, hi, hz, hs1, hb1⟩ := info5
  obtain ⟨a, cap, rfl, hxc, hnn, hcell⟩ := hsrc
  cases a with
  | none =>
    have e : X = [] := by
      apply List.eq_nil_of_length_eq_zero
      have := hnn rfl
      omega
    have ec : cap = 0 := hnn rfl
    subst e ec
    exact ⟨v, W, run_append_owned_none W base 33 ty 5 i 1 Try.underlying33 hi v _ _ hown, by simpa using hown, ⟨rfl, rfl, rfl, Nat.le_refl _, fun _ _ _ => rfl⟩, .inl rfl⟩
  | some ad =>
    obtain ⟨v', W', hr, ho, hg, _, hat⟩ := run_append_own_at W base 33 ty 5 i (.int .u8 0) 1 1 Try.underlying33 hi hz hs1 hb1 rfl (by omega) v l.length _ hown ad X.length cap (X.map fun x => Value.int .u8 x) (by simp) (by
      intro j u hj
      obtain ⟨hj1, hj2⟩ := List.getElem?_eq_some_iff.1 hj
      have hjl : j < X.length := by simpa using hj1
      obtain ⟨b, off, e, hx⟩ := hcell j hjl
      simp only [Option.some.injEq] at e
      subst e
      have e2 : (⟨b, off, none⟩ : Addr).add j = ⟨b, off + j, none⟩ := by unfold Addr.add; split <;> simp_all
      rw [e2, hx, ← hj2]
      simp [List.getD, hjl]) (by intro u hu; obtain ⟨x, _, rfl⟩ := List.mem_map.1 hu; rfl) (by unfold maxLen; omega) (by omega) hbase
    refine ⟨v', W', hr, ?_, hg, hat⟩
    unfold Own
    rw [List.length_append, List.map_append]
    exact ho

theorem wpList_append_at {ops : Array Oper} {rest : List Oper} {o : Oper} {a : Act} {Q : Exit → Act → World → Prop} (hgd : o.guard = none) (s x : Operand)
    (ho : o.op = .call { callee := .builtin .append, args := #[s, x], argTypes := #[33, 33] }) (W : World) (base : Nat) (v src : Value) (l X : List Int) (hs : a.eval s = v) (hx : a.eval x = src)
    (hown : Own W base v l) (hsrc : Sl W src X) (hn : l.length + X.length ≤ 140737488355328) (hbase : base ≤ W.heap.size)
    (h : ∀ v' W', Own W' base v' (l ++ X) → W.grownBy W' v.ownBlock → (v'.ownBlock = v.ownBlock ∨ v'.ownBlock = some W.heap.size) → wpList Try.prog ops Q rest (a.put o.dst v') W') : wpList Try.prog ops Q (o :: rest) a W := by
  refine wpList_plain hgd fun K hK => ?_
  obtain ⟨v', W', hr, h2, h3, h4⟩ := append_bytes_at W base o.type v src l X hown hsrc hn hbase
  unfold Oper.wp execOp
  simp only [ho, resolve, invoke, builtin, Sem.run_bind, Sem.run_pure, Result.andThen_ok, List.map_toArray, List.map_cons, List.map_nil, hs, hx, hr]
  exact hK _ _ (h v' W' h2 h3 h4)

theorem Sl.take {W : World} {a : Option Addr} {cap : Nat} {X : List Int} (h : Sl W (.slice a X.length cap) X) {k : Nat} (hk : k ≤ X.length) : Sl W (.slice a k cap) (X.take k) := by
  obtain ⟨a', cap', e, hc, hn, hcell⟩ := h
  simp only [Value.slice.injEq] at e
  obtain ⟨rfl, _, rfl⟩ := e
  have el : (X.take k).length = k := by simp; omega
  refine ⟨a, cap, by rw [el], by rw [el]; omega, hn, fun i hi => ?_⟩
  rw [el] at hi
  obtain ⟨b, off, e, hx⟩ := hcell i (by omega)
  refine ⟨b, off, e, ?_⟩
  rw [hx]
  simp [List.getD, hi]

theorem Chain.low {w : World} {b r bound high low : Nat} {L : List Int} {stop : Bool} (h : Chain w b r bound high low L stop) : ∃ r', Chain w b r' bound high low L stop ∧ r' < w.heap.size ∧ (r' = r ∨ r' = b) := by
  rcases h.body with ⟨k, e⟩ | ⟨R, st, k⟩
  · exact ⟨b, ⟨h.marks, .inl ⟨k, e⟩⟩, k.lt, .inr rfl⟩
  · exact ⟨r, h, (Array.getElem?_eq_some_iff.1 k.ring).1, .inl rfl⟩

/-- How many bytes the first j steps hold. -/
def total (Xf : Nat → List Int) : Nat → Nat
  | 0 => 0
  | j + 1 => total Xf j + (Xf j).length

/-- What holds at the head of each round. -/
def WInv (w : World) (bound high low tot : Nat) (p t : Value) (wr : World) : Prop :=
  ∃ (P T L : List Int) (stop : Bool) (r : Nat), Fr (fun i => w.heap.size ≤ i) w wr ∧ wr.heap[w.heap.size]? = some (.cells #[.int .i64 (bound : Int), .int .i64 (high : Int), .int .i64 (low : Int)] 23 (0, 0)) ∧
    Chain wr (w.heap.size + 1) r bound high low L stop ∧ r < wr.heap.size ∧ w.heap.size < r ∧ w.heap.size + 2 ≤ wr.heap.size ∧ Own wr (w.heap.size + 2) p P ∧ Own wr (w.heap.size + 2) t T ∧ P = T ++ L ∧ P.length ≤ tot ∧
    (∀ g, p.ownBlock = some g → t.ownBlock ≠ some g ∧ g ≠ r) ∧ (∀ g, t.ownBlock = some g → g ≠ r)

theorem whole_bad (bound high low : Int) (l : Value) (w : World) (h : ¬ (1 ≤ bound ∧ bound ≤ 1048576 ∧ 1 ≤ high ∧ high ≤ bound ∧ 0 ≤ low ∧ low < high)) :
    Calls Try.prog 4 #[.agg #[.int .i64 bound, .int .i64 high, .int .i64 low], l] w fun e w' => e = .returned (.bool true) ∧ Below w.heap.size w w' := by
  have hn := hide (fun W => new_no bound high low W h)
  clear h
  go_enter Try.func4, Try.ntmps4
  go_wp2_with (first | (go_at_call 8; refine (hn.out _).mono ?_; rintro e w' ⟨rfl, rfl⟩) | (go_at_call 10; refine (speaks_any _).mono ?_; rintro e w' ⟨rfl, F⟩))
  go_ret
  exact ⟨rfl, ((Below.refl _ _).alloc (Nat.le_refl _) _).trans ((F.below (Nat.le_refl _) (fun _ _ x => x)).mono (by simp))⟩

set_option maxRecDepth 100000 in
set_option maxHeartbeats 4000000 in
theorem whole_good (bound high low : Nat) (m : Marks bound high low) (ad : Option Addr) (len cap : Nat) (Xf : Nat → List Int) (w : World) (hlen : len ≤ 9223372036854775807)
    (hst : ∀ i, i < len → ∃ b off kd n a c, ad = some ⟨b, off, none⟩ ∧ StepAt w b off i kd n a c (Xf i)) (htot : ∀ j, j ≤ len → total Xf j ≤ 1048576) :
    Calls Try.prog 4 #[.agg #[.int .i64 (bound : Int), .int .i64 (high : Int), .int .i64 (low : Int)], .slice ad len cap] w fun e w' => e = .returned (.bool true) ∧ Below w.heap.size w w' := by
  have HS := hide hst
  have HT := hide htot
  have M := hide m
  clear hst htot m
  go_enter Try.func4, Try.ntmps4
  go_wp2_with fail
  refine (new_yes bound high low M.out _).mono ?_
  rintro e w1 ⟨rfl, F1, z1, C1⟩
  have F1' : Hid (Fr (fun _ => False) w w1) := hide ((Fr.alloc _ w _).trans F1 (fun _ _ x => x))
  have hz1 : Hid (w1.heap.size = w.heap.size + 2) := hide (by rw [z1]; simp)
  have x1 := hide (F1.hd (fun x => x) (hp_new w (.cells #[.int .i64 (bound : Int), .int .i64 (high : Int), .int .i64 (low : Int)] 23)))
  have CC1 : Hid (Chain w1 (w.heap.size + 1) (w.heap.size + 1) bound high low [] false) := hide (by simpa using C1)
  have I1 : Hid (WInv w bound high low (total Xf 0) (.slice none 0 0) (.slice none 0 0) w1) := hide ⟨[], [], [], false, w.heap.size + 1, F1'.out.mono (fun _ _ x => x.elim), x1.out, CC1.out, by rw [hz1.out]; omega, by omega, by rw [hz1.out]; exact Nat.le_refl _, Own.nil _ _, Own.nil _ _, rfl, Nat.zero_le _, fun g h => by simp [Value.ownBlock] at h, fun g h => by simp [Value.ownBlock] at h⟩
  clear F1 z1 C1 F1' hz1 x1 CC1
  go_wp2_with fail
  go_loopw [7, 8, 37] (fun p t i wr => ∃ j : Nat, j ≤ len ∧ i = .int .i64 j ∧ Hid (WInv w bound high low (total Xf j) p t wr)) (fun _ _ i _ => len - (intOf i).toNat)
  case atStart => exact ⟨0, Nat.zero_le _, rfl, I1⟩
  case round =>
    obtain ⟨j, hj, rfl, HI⟩ := hrel
    by_cases hlt : j < len
    · obtain ⟨b, off, kd, n, a, c, rfl, hs⟩ := HS.out j hlt
      obtain ⟨P, T, L, stop, r, F, hx, hC, hr, hrN, hsz, hP, hT, hPT, hPl, hd1, hd2⟩ := HI.out
      have hs2 := hs.frame F
      have c0 := hs2.c0
      have c1 := hs2.c1
      have c2 := hs2.c2
      have HSt := hide hs2
      have HS0 := hide hs
      have HF := hide F
      have HX := hide hx
      have HC := hide hC
      have HP := hide hP
      have HTt := hide hT
      have HPT := hide hPT
      have HPl := hide hPl
      have HD1 := hide hd1
      have HD2 := hide hd2
      have bP : Hid (∀ g, u7.ownBlock = some g → w.heap.size + 2 ≤ g ∧ g < wr.heap.size) := hide (fun g hg => hP.block hg)
      have bT : Hid (∀ g, u8.ownBlock = some g → w.heap.size + 2 ≤ g ∧ g < wr.heap.size) := hide (fun g hg => hT.block hg)
      have hX : (Xf j).length ≤ 9223372036854775807 := hs.len
      have htj : Hid (total Xf j + (Xf j).length ≤ 1048576) := hide (HT.out (j + 1) hlt)
      have hNr : w.heap.size ≤ wr.heap.size := F.size
      obtain ⟨X, HXf⟩ : ∃ X, Hid (Xf j = X) := ⟨_, hide rfl⟩
      rw [HXf.out] at HSt HS0 hX htj c2
      clear hs hs2 F hx hC hP hT hPT hPl hd1 hd2 HI I1
      go_wp2_with fail
      have FA : Fr (fun _ => False) wr (wr.alloc (.cells #[.int .i64 kd, .int .i64 n, .slice a X.length c] 35)) := Fr.alloc _ _ _
      have nA := hide (hp_new wr (.cells #[.int .i64 kd, .int .i64 n, .slice a X.length c] 35))
      have zA : (wr.alloc (.cells #[.int .i64 kd, .int .i64 n, .slice a X.length c] 35)).heap.size = wr.heap.size + 1 := by simp
      refine (put_any (HC.out.frame FA (fun x => x) (fun x => x)) _ X (HSt.out.sl.cellsEq (fun b off n c e hn => FA.block b (HSt.out.lies b off n c e hn) (fun x => x))) (fun b off n c e hn => ⟨by have := HS0.out.lies b off n c e hn; omega, by have := HS0.out.lies b off n c e hn; omega, by have := HSt.out.lies b off n c e hn; omega⟩) hX).mono ?_
      rintro e w5 ⟨rfl, F5, r5, C5, hr5⟩
      obtain ⟨k, Hk⟩ : ∃ k, Hid (kPut X bound L.length = k) := ⟨_, hide rfl⟩
      rw [Hk.out] at C5
      rw [Hk.out]
      have hz5 : wr.heap.size + 1 ≤ w5.heap.size := by have := F5.size; omega
      obtain ⟨r6, C6, hr6, hr6'⟩ := C5.low
      have F05 : Hid (Fr (fun i => w.heap.size ≤ i) w w5) := hide (((HF.out.trans FA (fun _ _ x => x.elim)).trans F5 (fun i _ x => by omega)))
      have x5 := hide (F5.hd (by omega) (FA.hd (fun x => x) HX.out))
      have n5 := hide (F5.hd (by omega) nA.out)
      have P5 : Hid (Own w5 (w.heap.size + 2) u7 P) := hide (HP.out.frame (fun g hg => (F5.block g (by have := bP.out g hg; omega) (by have := bP.out g hg; have := (HD1.out g hg).2; omega)).trans (FA.block g (bP.out g hg).2 (fun x => x))))
      have T5 : Hid (Own w5 (w.heap.size + 2) u8 T) := hide (HTt.out.frame (fun g hg => (F5.block g (by have := bT.out g hg; omega) (by have := bT.out g hg; have := HD2.out g hg; omega)).trans (FA.block g (bT.out g hg).2 (fun x => x))))
      have D1 : Hid (∀ g, u7.ownBlock = some g → u8.ownBlock ≠ some g ∧ g ≠ r6) := hide (fun g hg => ⟨(HD1.out g hg).1, by have := (HD1.out g hg).2; have := bP.out g hg; omega⟩)
      have D2 : Hid (∀ g, u8.ownBlock = some g → g ≠ r6) := hide (fun g hg => by have := HD2.out g hg; have := bT.out g hg; omega)
      have hr6N : w.heap.size < r6 := by omega
      have lk : k ≤ X.length ∧ (L ++ X.take k).length ≤ bound := ⟨by have := Hk.out; unfold kPut at this; omega, C6.fits⟩
      have lk1 : k ≤ X.length := lk.1
      have lk2 := lk.2
      generalize hL5 : L ++ X.take k = L5 at C6 lk2
      have HL5 := hide hL5
      generalize putStop stop high L.length k = stop5 at C6
      have CC6 := hide C6
      have y0 : w5.cell? ⟨w.heap.size, 0, none⟩ = some (.int .i64 (bound : Int)) := by rw [cell_of x5.out]; rfl
      have y1 : w5.cell? ⟨wr.heap.size, 1, none⟩ = some (.int .i64 n) := by rw [cell_of n5.out]; rfl
      have y2 : w5.cell? ⟨wr.heap.size, 2, none⟩ = some (.slice a X.length c) := by rw [cell_of n5.out]; rfl
      have S5 : Hid (Sl w5 (.slice a k c) (X.take k)) := hide ((HS0.out.frame F05.out).sl.take lk1)
      clear C5 F5 C6 hr5 hr6' HC HP HTt HX HF HD1 HD2 nA FA HSt lk hL5 c0 c1 c2
      have lq : Hid (∀ q, Calls Try.prog 20 #[.pointer (some ⟨w.heap.size + 1, 0, none⟩)] (w5.drewN q) fun e w' => e = .returned (.int .i64 (L5.length : Int)) ∧ w' = w5.drewN q) := hide (fun q => (len_chain (CC6.out.drewN q)).mono (fun e w' h => ⟨h.1, h.2.symm⟩))
      have g1 : decide ((k : Int) < 0) = false := by simp
      have g2 : decide ((X.length : Int) < (k : Int)) = false := by simp; omega
      have g3 : decide ((bound : Int) < (L5.length : Int)) = false := by simp; omega
      have kc : k ≤ c := by obtain ⟨a', c', e, hc, _⟩ := HS0.out.sl; simp only [Value.slice.injEq] at e; omega
      have kc' : (k : Int) ≤ c := by omega
      go_wp2_with fail
      go_quiet ((go_at_call 20; exact Calls.quiet_of_same (lq.out _)))
      have P6 : Hid (Own (w5.drewN nq) (w.heap.size + 2) u7 P) := hide (P5.out.frame (fun _ _ => rfl))
      have S6 : Hid (Sl (w5.drewN nq) (.slice a k c) (X.take k)) := hide (S5.out.cellsEq (fun _ _ _ _ _ _ => rfl))
      have lP : P.length + (X.take k).length ≤ 1048576 := by have := HPl.out; have := htj.out; simp only [List.length_take]; omega
      have zf : Hid (∀ W : World, (w5.drewN nq).grownBy W u7.ownBlock → W.cell? ⟨wr.heap.size, 1, none⟩ = some (.int .i64 n)) := hide (fun W G => by
        have h : W.heap[wr.heap.size]? = _ := (G.block wr.heap.size (by show wr.heap.size < w5.heap.size; omega) (fun h => by have := bP.out _ h.symm; omega)).trans n5.out
        rw [cell_of h]; rfl)
      go_wp2_with (at_builtin; refine wpList_append_at rfl _ _ rfl (w5.drewN nq) (w.heap.size + 2) u7 (.slice a k c) P (X.take k) rfl rfl P6.out S6.out (by omega) (by show w.heap.size + 2 ≤ w5.heap.size; omega) ?_; intro v7 w7 O7 G7 A7; have z1 := zf.out w7 G7)
      have G7' := Fr.ofGrownBy G7
      have F57 : Hid (Fr (fun i => u7.ownBlock = some i) w5 w7) := hide ((Fr.drewN (fun i => u7.ownBlock = some i) w5 nq).trans G7' (fun _ _ x => x))
      have OO7 := hide O7
      have AA7 : Hid (v7.ownBlock = u7.ownBlock ∨ v7.ownBlock = some w5.heap.size) := hide A7
      have hz7 : w5.heap.size ≤ w7.heap.size := F57.out.size
      have C7 : Hid (Chain w7 (w.heap.size + 1) r6 bound high low L5 stop5) := hide (CC6.out.frame F57.out (fun h => by have := bP.out _ h; omega) (fun h => (D1.out _ h).2 rfl))
      have T7 : Hid (Own w7 (w.heap.size + 2) u8 T) := hide (T5.out.frame (fun g hg => F57.out.block g (by have := bT.out g hg; omega) (fun h => (D1.out g h).1 hg)))
      have x7 := hide (F57.out.hd (fun h => by have := bP.out _ h; omega) x5.out)
      have F07 : Hid (Fr (fun i => w.heap.size ≤ i) w w7) := hide (F05.out.trans F57.out (fun i _ h => by have := bP.out i h; omega))
      have E7 : Hid (∀ g, v7.ownBlock = some g → u8.ownBlock ≠ some g ∧ g ≠ r6 ∧ w.heap.size + 2 ≤ g ∧ g < w7.heap.size) := hide (fun g hg => by
        have hb := OO7.out.block hg
        rcases AA7.out with h | h
        · rw [h] at hg
          exact ⟨(D1.out g hg).1, (D1.out g hg).2, hb.1, hb.2⟩
        · rw [h] at hg
          simp only [Option.some.injEq] at hg
          subst hg
          exact ⟨fun h => by have := bT.out _ h; omega, by omega, hb.1, hb.2⟩)
      clear O7 G7 A7 G7' P5 T5 CC6 x5 n5 F05 F57 P6 S6 S5 y0 y1 y2 lq g1 g2 g3
      refine (take_any C7.out n).mono ?_
      rintro e w8 ⟨v8, rfl, F8, S8, L8, C8⟩
      obtain ⟨K, HK⟩ : ∃ K, Hid (kOf n L5.length = K) := ⟨_, hide rfl⟩
      rw [HK.out] at S8 C8
      have hz8 : w7.heap.size ≤ w8.heap.size := F8.size
      have SS8 := hide S8
      have CC8 := hide C8
      have T8 : Hid (Own w8 (w.heap.size + 2) u8 T) := hide (T7.out.frame (fun g hg => F8.block g (by have := bT.out g hg; omega) (by have := bT.out g hg; omega)))
      have P8 : Hid (Own w8 (w.heap.size + 2) v7 (P ++ X.take k)) := hide (OO7.out.frame (fun g hg => F8.block g (E7.out g hg).2.2.2 (by have := (E7.out g hg).2.2.1; omega)))
      have x8 := hide (F8.hd (by omega) x7.out)
      have F08 : Hid (Fr (fun i => w.heap.size ≤ i) w w8) := hide (F07.out.trans F8 (fun i _ h => by omega))
      have eP : Hid (P ++ X.take k = (T ++ L5.take K) ++ L5.drop K) := hide (by rw [HPT.out, List.append_assoc, HL5.out, List.append_assoc, List.take_append_drop])
      have lT : T.length + (L5.take K).length ≤ 1048576 := by
        have h := congrArg List.length eP.out
        simp only [List.length_append] at h
        omega
      clear S8 C8 F8 L8 T7 OO7 x7 F07 C7 z1
      go_wp2_with (at_builtin; refine wpList_append_at rfl _ _ rfl w8 (w.heap.size + 2) u8 v8 T (L5.take K) rfl rfl T8.out SS8.out (by omega) (by omega) ?_; intro v9 w9 O9 G9 A9)
      have F89 := hide (Fr.ofGrownBy G9)
      have hz9 : w8.heap.size ≤ w9.heap.size := G9.size
      have OO9 := hide O9
      have AA9 := hide A9
      clear O9 G9 A9
      go_roundw
      case rel =>
        refine ⟨j + 1, by omega, by go_num, hide ?_⟩
        refine ⟨P ++ X.take k, T ++ L5.take K, L5.drop K, _, r6, ?_, ?_, CC8.out.frame F89.out ?_ ?_, ?_, ?_, ?_, ?_, OO9.out, eP.out, ?_, ?_, ?_⟩
        · exact F08.out.trans F89.out (fun i _ h => by have := bT.out i h; omega)
        · exact F89.out.hd (fun h => by have := bT.out _ h; omega) x8.out
        · exact fun h => by have := bT.out _ h; omega
        · exact fun h => D2.out _ h rfl
        · omega
        · omega
        · omega
        · exact P8.out.frame (fun g hg => F89.out.block g (by have := (E7.out g hg).2.2.2; omega) (fun h => (E7.out g hg).1 h))
        · show (P ++ X.take k).length ≤ total Xf j + (Xf j).length
          rw [HXf.out]
          have := HPl.out
          simp only [List.length_append, List.length_take]
          omega
        · intro g hg
          refine ⟨fun h => ?_, (E7.out g hg).2.1⟩
          rcases AA9.out with e | e
          · rw [e] at h; exact (E7.out g hg).1 h
          · rw [e] at h
            simp only [Option.some.injEq] at h
            have := (E7.out g hg).2.2.2
            omega
        · intro g hg
          rcases AA9.out with e | e
          · rw [e] at hg; exact D2.out g hg
          · rw [e] at hg
            simp only [Option.some.injEq] at hg
            omega
      case measure => simp [intOf]; omega
    · have ej : j = len := by omega
      subst ej
      obtain ⟨P, T, L, stop, r, F, hx, hC, hr, hrN, hsz, hP, hT, hPT, hPl, hd1, hd2⟩ := HI.out
      have y0 : wr.cell? ⟨w.heap.size, 0, none⟩ = some (.int .i64 (bound : Int)) := by rw [cell_of hx]; rfl
      have HF := hide F
      have HC := hide hC
      have HP := hide hP
      have HTt := hide hT
      have HPT := hide hPT
      have HPl := hide (Nat.le_trans hPl (HT.out j (Nat.le_refl _)))
      have HD1 := hide hd1
      have HD2 := hide hd2
      have bP : Hid (∀ g, u7.ownBlock = some g → w.heap.size + 2 ≤ g ∧ g < wr.heap.size) := hide (fun g hg => hP.block hg)
      have bT : Hid (∀ g, u8.ownBlock = some g → w.heap.size + 2 ≤ g ∧ g < wr.heap.size) := hide (fun g hg => hT.block hg)
      have lL : L.length ≤ bound := hC.fits
      clear F hx hC hP hT hPT hPl hd1 hd2 HI I1
      go_wp2_with fail
      refine (take_any HC.out (bound : Int)).mono ?_
      rintro e w8 ⟨v8, rfl, F8, S8, L8, C8⟩
      have ek : kOf (bound : Int) L.length = L.length := by unfold kOf; omega
      rw [ek, List.take_length] at S8
      rw [ek, List.drop_length] at C8
      have hz8 : wr.heap.size ≤ w8.heap.size := F8.size
      have SS8 := hide S8
      have T8 : Hid (Own w8 (w.heap.size + 2) u8 T) := hide (HTt.out.frame (fun g hg => F8.block g (bT.out g hg).2 (by have := bT.out g hg; omega)))
      have P8 : Hid (Own w8 (w.heap.size + 2) u7 P) := hide (HP.out.frame (fun g hg => F8.block g (bP.out g hg).2 (by have := bP.out g hg; omega)))
      have F08 : Hid (Fr (fun i => w.heap.size ≤ i) w w8) := hide (HF.out.trans F8 (fun i _ h => by omega))
      have CC8 := hide C8
      have lT : T.length + L.length ≤ 1048576 := by
        have h := congrArg List.length HPT.out
        have := HPl.out
        simp only [List.length_append] at h
        omega
      have fin : Hid (∀ v W, Own W (w.heap.size + 2) v (T ++ L) → w8.grownBy W u8.ownBlock → (convert 33 9 u7).run Try.prog W = .ok (.string (strOfNums P)) W ∧ (convert 33 9 v).run Try.prog W = .ok (.string (strOfNums P)) W ∧ Chain W (w.heap.size + 1) r bound high low [] (dropStop stop low L.length L.length) ∧ Fr (fun i => w.heap.size ≤ i) w W) := hide (by
        intro v W hO hG
        have G := Fr.ofGrownBy hG
        refine ⟨(P8.out.frame (fun g hg => G.block g (by have := bP.out g hg; omega) (fun h => (HD1.out g hg).1 h))).sl.text, ?_, CC8.out.frame2 G (fun h => by have := bT.out _ h; omega) (fun _ h => HD2.out _ h rfl), F08.out.trans G (fun i _ h => by have := bT.out i h; omega)⟩
        rw [HPT.out]
        exact hO.sl.text)
      clear S8 C8 F8 L8 CC8 ek
      obtain ⟨sP, HsP⟩ : ∃ s, Hid (strOfNums P = s) := ⟨_, hide rfl⟩
      rw [HsP.out] at fin
      go_wp2_with (first | (at_builtin; refine wpList_append_at rfl _ _ rfl w8 (w.heap.size + 2) u8 v8 T L rfl rfl T8.out SS8.out (by omega) (by omega) ?_; intro v9 w9 O9 G9 A9; have f9 := fin.out v9 w9 O9 G9; have t1 := f9.1; have t2 := f9.2.1; have C9 := hide f9.2.2.1; have F9 := hide f9.2.2.2; clear f9 O9 G9 A9) | (go_at_call 20; refine (len_chain C9.out).mono ?_; rintro e w' ⟨rfl, rfl⟩) | (go_at_call 10; refine (speaks_any _).mono ?_; rintro e w10 ⟨rfl, F10⟩))
      go_ret
      exact ⟨rfl, (F9.out.trans F10 (fun _ _ x => x.elim)).below (Nat.le_refl _) (fun k hk x => by omega)⟩
end Go.Proofs.Ytglhoihiaflmgab
