/- The document's request: an attempt runs no longer, one fails. -/
import Derived.Test.YtjfpdenakgifgaaADo2
namespace Go.Proofs.Ytjfpdenakgifgaa
open Go.ChangeShapes Go.WideShapes Go.ChangeAt Go.RowKit
set_option linter.unusedVariables false

theorem sis_app (L M : List Rn) : sis (L ++ M) = sis L ++ sis M := List.map_append
/-- Two new rows in the place of the old ones, which stay as they are. -/
theorem DT.renew {x : Ex} {p : Rq} {mk : Int} {ov : Bool} {I B I' B' : List Int} {A : List Ac} {b : Nat} {vi vb vo v1 v2 : Value} {w w1 : World} {P : Nat → Prop} (h : DT x p mk ov I B A b vi vb vo w P) (d : Does (Two (RI v1 I') (RI v2 B')) none' w w1) : Does (Two (RI vi I) (Two (RI vb B) (DT x p mk ov I' B' A b v1 v2 vo))) P w ((w1.setCell ⟨b, 11, none⟩ v1).setCell ⟨b, 12, none⟩ v2) := by
  have q := h.pt
  have q1 := q.fr d.fr
  have hb := hp_lt q.B0
  obtain ⟨P', ⟨Q1, Q2, r1, r2, dd, ee⟩, F, o⟩ := d
  have o1 : ∀ k, v1.ownBlock = some k → w.heap.size ≤ k := fun k hk => (o k ((ee k).2 (.inl ((r1.2 k).2 hk)))).resolve_left (fun y => y)
  have o2 : ∀ k, v2.ownBlock = some k → w.heap.size ≤ k := fun k hk => (o k ((ee k).2 (.inr ((r2.2 k).2 hk)))).resolve_left (fun y => y)
  have d12 : ∀ k, v1.ownBlock = some k → v2.ownBlock ≠ some k := fun k hk e => dd k ((r1.2 k).2 hk) ((r2.2 k).2 e)
  have FS : Fr (fun k => k = b) w1 ((w1.setCell ⟨b, 11, none⟩ v1).setCell ⟨b, 12, none⟩ v2) := (Fr.set _ _ _ _).trans (Fr.set _ _ _ _) (fun _ _ y => y)
  have li : ∀ k, vi.ownBlock = some k → k < w.heap.size := fun k hk => q.I.lt hk
  have lb : ∀ k, vb.ownBlock = some k → k < w.heap.size := fun k hk => q.B.lt hk
  have la : ∀ k, vo.ownBlock = some k → k < w.heap.size := fun k hk => q.A.lt hk
  have hD : DT x p mk ov I' B' A b v1 v2 vo ((w1.setCell ⟨b, 11, none⟩ v1).setCell ⟨b, 12, none⟩ v2) (fun k => k = b ∨ v1.ownBlock = some k ∨ v2.ownBlock = some k ∨ vo.ownBlock = some k) :=
    DT.mkd (hp_set (hp_set q1.B0 11 v1) 12 v2) (r1.1.fr FS (fun k hk e => by have := o1 k hk; omega)) (r2.1.fr FS (fun k hk e => by have := o2 k hk; omega)) (q1.A.fr FS (fun k hk e => q.nA (by rw [hk, e]))) (fun e => by have := o1 b e; omega) (fun e => by have := o2 b e; omega) q.nA d12 (fun k hk e => by have := o1 k hk; have := la k e; omega) (fun k hk e => by have := o2 k hk; have := la k e; omega)
  refine ⟨fun k => vi.ownBlock = some k ∨ (vb.ownBlock = some k ∨ (k = b ∨ v1.ownBlock = some k ∨ v2.ownBlock = some k ∨ vo.ownBlock = some k)), ⟨_, fun k => vb.ownBlock = some k ∨ (k = b ∨ v1.ownBlock = some k ∨ v2.ownBlock = some k ∨ vo.ownBlock = some k), ⟨q1.I.fr FS (fun k hk e => q.nI (by rw [hk, e])), fun _ => Iff.rfl⟩, ⟨_, _, ⟨q1.B.fr FS (fun k hk e => q.nB (by rw [hk, e])), fun _ => Iff.rfl⟩, hD, fun k hk e => ?_, fun _ => Iff.rfl⟩, fun k hk e => ?_, fun _ => Iff.rfl⟩, (F.mono (T := P) (fun _ _ y => y.elim)).trans FS (fun k _ e => (q.hP k).2 (.inl e)), fun k hk => ?_⟩
  · rcases e with e | e | e | e
    · exact q.nB (by rw [hk, e])
    · have := o1 k e; have := lb k hk; omega
    · have := o2 k e; have := lb k hk; omega
    · exact q.dBA k hk e
  · rcases e with e | e | e | e | e
    · exact q.dIB k hk e
    · exact q.nI (by rw [hk, e])
    · have := o1 k e; have := li k hk; omega
    · have := o2 k e; have := li k hk; omega
    · exact q.dIA k hk e
  · rcases hk with e | e | e | e | e | e
    · exact .inl ((q.hP k).2 (.inr (.inl e)))
    · exact .inl ((q.hP k).2 (.inr (.inr (.inl e))))
    · exact .inl ((q.hP k).2 (.inl e))
    · exact .inr (o1 k e)
    · exact .inr (o2 k e)
    · exact .inl ((q.hP k).2 (.inr (.inr (.inr e))))
section
variable {x : Ex} {p : Rq} {mk : Int} {ov : Bool} {A : List Ac} {b : Nat} {vi vb vo : Value} {w : World} {P : Nat → Prop}
set_option maxHeartbeats 8000000 in
set_option maxRecDepth 100000 in
/-- It runs no longer; the rows that were there stay as they are, beside. -/
theorem rend_any (id : Int) (h : DT x p mk ov (ids p.R) (sis p.R) A b vi vb vo w P) (h9 : p.R.length ≤ 9) :
    Calls Try.prog 35 #[.pointer (some ⟨b, 0, none⟩), .int .i64 id] w fun e w' => e = .returned (.tuple #[]) ∧ Does (Two (RI vi (ids p.R)) (Two (RI vb (sis p.R)) (DX x (fgP p id) mk A ov b))) P w w' := by
  have HH := hide h
  have q := h.pt
  obtain ⟨c0, c1, c2, c3, c4, c5, c6, c7, c8, c9, c10, c11, c12, c13, c14, c15⟩ := q.c
  obtain ⟨ai, ci, rfl, hi0, hi1⟩ := q.I.shape
  obtain ⟨ab, cb, rfl, hb0, hb1⟩ := q.B.shape
  have HQ := hide q
  have hbl := hp_lt q.B0
  clear h q
  obtain ⟨n, Hn⟩ : ∃ n, Hid (p.R.length = n) := ⟨_, hide rfl⟩
  have Hi : Hid ((ids p.R).length = n) := hide (by rw [ids_len, Hn.out])
  have Hs : Hid ((sis p.R).length = n) := hide (by rw [sis_len, Hn.out])
  rw [Hi.out] at c11 hi0 HQ HH
  rw [Hs.out] at c12 hb0 HQ HH
  rw [Hn.out] at h9
  go_enter Try.func35, Try.ntmps35
  go_wp2_with fail
  clear c0 c1 c2 c3 c4 c5 c6 c7 c8 c9 c10 c11 c13 c14 c15
  go_loopw [4, 5, 13] (fun s t v wr => ∃ k : Nat, k ≤ n ∧ v = .int .i64 (k : Int) ∧ Hid (Does (Two (RI s (ids (noId id (p.R.take k)))) (RI t (sis (noId id (p.R.take k))))) none' w wr)) (fun _ _ v _ => n - (intOf v).toNat)
  case atStart => exact ⟨0, Nat.zero_le _, rfl, hide ⟨fun _ => False, ⟨fun _ => False, fun _ => False, ⟨Rw.nil _ _ _, fun k => by simp [Value.ownBlock]⟩, ⟨Rw.nil _ _ _, fun k => by simp [Value.ownBlock]⟩, fun _ y => y.elim, fun k => by simp⟩, Fr.refl _ _, fun k hk => hk.elim⟩⟩
  case round =>
    obtain ⟨k, hk, rfl, HI⟩ := hrel
    obtain ⟨sa, sc, rfl, hs0, hs1⟩ : ∃ a c, _ = Value.slice a (ids (noId id (p.R.take k))).length c ∧ (ids (noId id (p.R.take k))).length ≤ c ∧ c ≤ 9223372036854775807 := HI.out.fst_of.elim (fun _ z => z.1.shape)
    obtain ⟨ta, tc, rfl, ht0, ht1⟩ : ∃ a c, _ = Value.slice a (sis (noId id (p.R.take k))).length c ∧ (sis (noId id (p.R.take k))).length ≤ c ∧ c ≤ 9223372036854775807 := HI.out.snd_of.elim (fun _ z => z.1.shape)
    obtain ⟨m, Hm⟩ : ∃ m, Hid ((noId id (p.R.take k)).length = m) := ⟨_, hide rfl⟩
    have hm9 : m ≤ k := by rw [← Hm.out]; exact noId_tl id p.R k
    have Hmi : Hid ((ids (noId id (p.R.take k))).length = m) := hide (by rw [ids_len, Hm.out])
    have Hms : Hid ((sis (noId id (p.R.take k))).length = m) := hide (by rw [sis_len, Hm.out])
    rw [Hmi.out] at hs0 HI ⊢
    rw [Hms.out] at ht0 HI ⊢
    have HQr := hide (HQ.out.fr HI.out.fr)
    by_cases hlt : k < n
    · have hkl : k < p.R.length := by rw [Hn.out]; exact hlt
      have hr := get_ok hkl
      have hri : (ids p.R)[k]? = some p.R[k].id := by unfold ids; rw [List.getElem?_map, hr]; rfl
      have hrs : (sis p.R)[k]? = some p.R[k].si := by unfold sis; rw [List.getElem?_map, hr]; rfl
      have HNT := hide (noId_take id hr)
      have HRS := hide hrs
      obtain ⟨g1, off, cap1, e, -, -, r0⟩ := int_cell HQr.out.I hri
      rw [Hi.out] at e
      simp only [Value.slice.injEq] at e
      obtain ⟨rfl, -, rfl⟩ := e
      obtain ⟨g2, off2, cap2, e, -, -, r1⟩ := int_cell HQr.out.B hrs
      rw [Hs.out] at e
      simp only [Value.slice.injEq] at e
      obtain ⟨rfl, -, rfl⟩ := e
      have k12 : wr.cell? ⟨b, 12, none⟩ = some (.slice (some ⟨g2, off2, none⟩) n cb) := HQr.out.c.2.2.2.2.2.2.2.2.2.2.2.2.1
      generalize p.R[k] = r at *
      clear hr hkl hri hrs
      by_cases hid : r.id = id
      · have hN : isN id r = true := by unfold isN; simpa using hid
        have hne : (r.id != id) = false := by rw [hid]; simp
        have HT : Hid (noId id (p.R.take (k + 1)) = noId id (p.R.take k)) := hide (by rw [HNT.out, hN, if_pos rfl, List.append_nil])
        have T6 : Hid (Does (Two (RI (.slice sa m sc) (ids (noId id (p.R.take (k + 1))))) (RI (.slice ta m tc) (sis (noId id (p.R.take (k + 1)))))) none' w wr) := hide (by rw [HT.out]; exact HI.out)
        clear hN HNT HT HI hid
        go_wp2_with fail
        go_roundw
        case rel => exact ⟨k + 1, by omega, by go_num, T6⟩
        case measure => simp [intOf]; omega
      · have hN : isN id r = false := by unfold isN; simpa using hid
        have hne : (r.id != id) = true := by simpa using hid
        have HT : Hid (ids (noId id (p.R.take (k + 1))) = ids (noId id (p.R.take k)) ++ [r.id] ∧ sis (noId id (p.R.take (k + 1))) = sis (noId id (p.R.take k)) ++ [r.si]) := hide (by rw [HNT.out, hN, if_neg (by decide), ids_app, sis_app]; exact ⟨rfl, rfl⟩)
        have HS : Hid (Rw 3 1 wr (.slice sa m sc) m (ids (noId id (p.R.take k)))) := hide (by obtain ⟨_, z⟩ := HI.out.fst_of; have := z.1; rw [Hmi.out] at this; exact this)
        clear hN HNT
        go_wp2_with (at_builtin; apply Hid.out)
        unfold Hid
        refine wpList_append_rw infInt rfl _ _ rfl wr (.slice sa m sc) m _ [r.id] rfl (by simp [Act.eval, go_sem]) HS.out rfl (by omega) (by omega) ?_
        intro v' w5 q1 F o
        have T5 : Hid (Does (Two (RI v' (ids (noId id (p.R.take k)) ++ [r.id])) (RI (.slice ta m tc) (sis (noId id (p.R.take k))))) none' w w5) := hide (HI.out.left (fun _ y => y.app (by rw [List.length_append, Hmi.out]; exact q1) F o))
        clear q1 F o HS HI r0
        have k12' : w5.cell? ⟨b, 12, none⟩ = some (.slice (some ⟨g2, off2, none⟩) n cb) := (HQ.out.fr T5.out.fr).c.2.2.2.2.2.2.2.2.2.2.2.2.1
        have r1' : w5.cell? ⟨g2, off2 + k, none⟩ = some (.int .i64 r.si) := by
          obtain ⟨g3, off3, cap3, e, -, -, z⟩ := int_cell (HQ.out.fr T5.out.fr).B HRS.out
          rw [Hs.out] at e
          simp only [Value.slice.injEq, Option.some.injEq, Addr.mk.injEq, and_true] at e
          obtain ⟨⟨rfl, rfl⟩, -⟩ := e
          exact z
        clear r1 k12
        have HS : Hid (Rw 3 1 w5 (.slice ta m tc) m (sis (noId id (p.R.take k)))) := hide (by obtain ⟨_, z⟩ := T5.out.snd_of; have := z.1; rw [Hms.out] at this; exact this)
        obtain ⟨sv, sc2, rfl⟩ : ∃ a c, v' = Value.slice a (ids (noId id (p.R.take k)) ++ [r.id]).length c := T5.out.fst_of.elim (fun _ z => by obtain ⟨a, c, e, -, -⟩ := z.1.shape; exact ⟨a, c, e⟩)
        have hl1 : Hid ((ids (noId id (p.R.take k)) ++ [r.id]).length = m + 1) := hide (by rw [List.length_append, Hmi.out]; rfl)
        rw [hl1.out] at T5 ⊢
        go_wp2_with (at_builtin; apply Hid.out)
        unfold Hid
        refine wpList_append_rw infInt rfl _ _ rfl w5 (.slice ta m tc) m _ [r.si] rfl (by simp [Act.eval, go_sem]) HS.out rfl (by omega) (by omega) ?_
        intro v'' w6 q1 F o
        have T6 : Hid (Does (Two (RI (.slice sv (m + 1) sc2) (ids (noId id (p.R.take (k + 1))))) (RI v'' (sis (noId id (p.R.take (k + 1)))))) none' w w6) := hide (by
          rw [HT.out.1, HT.out.2]
          exact T5.out.right (fun _ y => y.app (by rw [List.length_append, Hms.out]; exact q1) F o))
        clear q1 F o HS T5 r1' k12'
        go_wp2_with fail
        go_roundw
        case rel => exact ⟨k + 1, by omega, by go_num, T6⟩
        case measure => simp [intOf]; omega
    · obtain rfl : k = n := by omega
      have etk : p.R.take k = p.R := by rw [← Hn.out]; exact List.take_length
      rw [etk] at HI Hmi Hms Hm
      have k11 : wr.cell? ⟨b, 11, none⟩ = some (.slice ai k ci) := HQr.out.c.2.2.2.2.2.2.2.2.2.2.2.1
      have k12 : wr.cell? ⟨b, 12, none⟩ = some (.slice ab k cb) := HQr.out.c.2.2.2.2.2.2.2.2.2.2.2.2.1
      have z11 : wr.frozen? ⟨b, 11, none⟩ = false := HQr.out.fz 11
      have z12 : wr.frozen? ⟨b, 12, none⟩ = false := HQr.out.fz 12
      have T1 : Hid (Does (Two (RI (.slice ai k ci) (ids p.R)) (Two (RI (.slice ab k cb) (sis p.R)) (DX x (fgP p id) mk A ov b))) P w ((wr.setCell ⟨b, 11, none⟩ (.slice sa m sc)).setCell ⟨b, 12, none⟩ (.slice ta m tc))) := hide (((HH.out.renew HI.out)).right (fun _ y => (Does.refl y).right (fun _ z => by
        have e : DT x p mk ov (ids (noId id p.R)) (sis (noId id p.R)) A b (.slice sa m sc) (.slice ta m tc) vo = DT x (fgP p id) mk ov (ids (fgP p id).R) (sis (fgP p id).R) A b (.slice sa m sc) (.slice ta m tc) vo := rfl
        rw [e] at z
        exact (Does.refl z).dx)))
      clear HI HQr HH
      go_wp2_with fail
      go_end0
      refine ⟨rfl, ?_⟩
      rw [Hi.out, Hs.out]
      exact T1.out
end
end Go.Proofs.Ytjfpdenakgifgaa
