/- The document's trailer. -/
import Derived.Test.YtggeihahbgeneaaDoorCRL
namespace Go.Proofs.YtggeihahbgeneaaDoor
open Go.ChangeShapes Go.WideShapes Go.ChangeAt Go.RowKit

theorem calls_ex {P : Program} {f : Nat} {args : Array Value} {w : World} {r : Value} {R : World → Prop} (c : Calls P f args w fun e w' => e = .returned r ∧ R w') : Calls P f args w fun e w' => ∃ u, e = .returned u ∧ (u = r ∧ R w') :=
  c.mono fun _ _ ⟨h1, h2⟩ => ⟨r, h1, rfl, h2⟩
def trOk (s : ByteArray) : Bool := k3 58 s && decide (chkF (fldF s) = 0)
set_option maxHeartbeats 4000000 in
set_option maxRecDepth 100000 in
theorem rtrailer_any (s : ByteArray) (w : World) (hs : s.size ≤ 8192) :
    Calls Tryd.prog 28 #[.string s] w fun e w' => ∃ r1 r2, e = .returned (.tuple #[.agg #[.string r1, .string r2], .bool (trOk s)]) ∧ (k3 58 s = true → (r1, r2) = fldF s) ∧ Below w.heap.size w w' := by
  have HT := hide (fun W => rtrim_any (k2 58 s) W (by have := k2_size 58 s; unfold maxLen; omega))
  have z1 := k1_size 58 s
  have z2 := k2_size 58 s
  have z3 := trim_size (k2 58 s)
  have HK := hide (fun (W : World) (v : Value) (hF : Flds W v [(k1 58 s, trimS (k2 58 s))]) => rCheck_any W v _ hF ⟨by simp, fun f hf => by
      rw [List.mem_singleton.1 hf]
      exact ⟨Nat.le_trans z1 (by omega), Nat.le_trans z3 (by omega)⟩⟩)
  simp only [chk_one] at HK
  obtain ⟨ok, hok⟩ : ∃ b, trOk s = b := ⟨_, rfl⟩
  rw [hok]
  have HOK := hide hok
  clear hok
  go_enter Tryd.func28, Tryd.ntmps28
  go_wp2_with fail
  have T0 := hide (Bl.one w #[.string ⟨#[]⟩, .string ⟨#[]⟩] 85)
  have hxs : (w.alloc (.cells #[.string ⟨#[]⟩, .string ⟨#[]⟩] 85)).heap.size = w.heap.size + 1 := by simp
  generalize (w.alloc (.cells #[.string ⟨#[]⟩, .string ⟨#[]⟩] 85)) = x at T0 hxs ⊢
  go_loopw [4] (fun i wr => ∃ k : Nat, k ≤ s.size ∧ i = .int .i64 k ∧ wr = x ∧ Hid (∀ x ∈ s.data.toList.take k, x ≠ 58)) (fun i _ => s.size - (intOf i).toNat)
  case atStart => exact ⟨0, Nat.zero_le _, rfl, rfl, hide (fun x hx => by simp at hx)⟩
  case round =>
    obtain ⟨k, hk, rfl, rfl, HN⟩ := hrel
    by_cases hlt : k < s.size
    · have HTS := hide (take_snoc s k hlt)
      have hlen : k < s.data.toList.length := by rw [size_len]; exact hlt
      have hby := byte_lt s[k]
      by_cases he : s[k] = 58
      · have t1 : ((s[k].toNat : Int) == 58) = true := by rw [he]; rfl
        have HC := hide (cu_at (c := 58) hlen HN.out (by rw [← he]; rfl))
        have E1 : k1 58 s = s.extract 0 k := data_inj (by unfold k1; rw [sS_list, HC.out.1, ext_list, List.drop_zero, Nat.sub_zero])
        have E2 : k2 58 s = s.extract (k + 1) s.size := data_inj (by
          unfold k2
          rw [sS_list, HC.out.2.1, ext_list, List.take_of_length_le]
          rw [List.length_drop, size_len]
          omega)
        have E3 : k3 58 s = true := HC.out.2.2
        have HOK2 : Hid (decide (chkF (k1 58 s, trimS (k2 58 s)) = 0) = ok) := hide (by have := HOK.out; unfold trOk at this; rw [E3, Bool.true_and] at this; exact this)
        have HFF : Hid (fldF s = (k1 58 s, trimS (k2 58 s))) := hide rfl
        rw [E1, E2] at HK HOK2 HFF
        rw [E2] at HT
        generalize hna : s.extract 0 k = na at HK HOK2 HFF
        generalize hta : s.extract (k + 1) s.size = ta at HT HK HOK2 HFF
        generalize trimS ta = va at HT HK HOK2 HFF
        generalize chkF (na, va) = ck at HK HOK2
        clear he HTS E1 E2 E3 HC HOK z1 z2 z3
        have hwr : IntKind.i64.wrap ((k : Int) + 1) = (k : Int) + 1 := IntWalk.i64_in _ ⟨by omega, by omega⟩
        have hle1 : (k : Int) + 1 ≤ (s.size : Int) := by omega
        have hge1 : 0 ≤ (k : Int) + 1 := by omega
        go_upto_region 5 with fail
        go_region_law (refine step_call rfl 32 _ _ rfl (enters_of Tryd.func32 (by kernel_rfl) rfl) #[.string ta] (by simp [Act.eval, Act.put]) _ (calls_ex (HT.out _)) ?_; rintro r w2 ⟨rfl, rfl⟩)
        all_goals (
          have T1 := hide ((T0.out.add hxs #[.string na, .string va] 85).drew)
          have hys : (wr.alloc (.cells #[.string na, .string va] 85)).drew.heap.size = w.heap.size + 2 := by
            show (wr.alloc (.cells #[.string na, .string va] 85)).heap.size = _
            simp
            omega
          generalize (wr.alloc (.cells #[.string na, .string va] 85)).drew = y at T1 hys ⊢
          clear T0 hna hta hxs
          go_upto_region 6 with fail
          have T2 := hide T1.out.drew
          have d0 : y.drew.cell? ⟨w.heap.size + 1, 0, none⟩ = some (.string na) := T2.out.cell 1 rfl 0
          have d1 : y.drew.cell? ⟨w.heap.size + 1, 1, none⟩ = some (.string va) := T2.out.cell 1 rfl 1
          have c0 : y.cell? ⟨w.heap.size + 1, 0, none⟩ = some (.string na) := T1.out.cell 1 rfl 0
          have c1 : y.cell? ⟨w.heap.size + 1, 1, none⟩ = some (.string va) := T1.out.cell 1 rfl 1
          have HB1 := hide ((Below.refl y.drew.heap.size y.drew).alloc (Nat.le_refl _) (.cells #[.string na, .string va] 85))
          have T3 := hide (T2.out.below HB1.out)
          have HCK := hide (HK.out _ _ (flds_one y.drew na va))
          have e0 : (y.drew.alloc (.cells #[.string na, .string va] 85)).cell? ⟨w.heap.size + 1, 0, none⟩ = some (.string na) := T3.out.cell 1 rfl 0
          have e1 : (y.drew.alloc (.cells #[.string na, .string va] 85)).cell? ⟨w.heap.size + 1, 1, none⟩ = some (.string va) := T3.out.cell 1 rfl 1
          go_region_law (refine step_call rfl 33 _ _ rfl (enters_of Tryd.func33 (by kernel_rfl) rfl) #[.slice (some ⟨y.drew.heap.size, 0, none⟩) 1 1] (by simp [Act.eval, hys]) _ (calls_ex HCK.out) ?_; rintro r w5 ⟨rfl, b5⟩; have T4 := hide (T3.out.below b5); have s0 : w5.cell? ⟨w.heap.size, 0, none⟩ = some (.string ⟨#[]⟩) := T4.out.cell 0 rfl 0; have s1 : w5.cell? ⟨w.heap.size, 1, none⟩ = some (.string ⟨#[]⟩) := T4.out.cell 0 rfl 1; have g0 : w5.frozen? ⟨w.heap.size, 0, none⟩ = false := T4.out.fr 0 rfl 0; have g1 : w5.frozen? ⟨w.heap.size, 1, none⟩ = false := T4.out.fr 0 rfl 1; have d0 : w5.cell? ⟨w.heap.size + 1, 0, none⟩ = some (.string na) := T4.out.cell 1 rfl 0; have d1 : w5.cell? ⟨w.heap.size + 1, 1, none⟩ = some (.string va) := T4.out.cell 1 rfl 1)
          all_goals (
            have h3 := hp_set (hp_set (T4.out.hp 0 _ _ rfl) 0 (.string na)) 1 (.string va)
            have k0 := cell_at h3 0
            have k1' := cell_at h3 1
            have kb := (T4.out.b.setCell (p := ⟨w.heap.size, 0, none⟩) (Nat.le_refl _) (.string na)).setCell (p := ⟨w.heap.size, 1, none⟩) (Nat.le_refl _) (.string va)
            simp only [Nat.add_zero] at k0 k1'
            have k0' : ((w5.setCell ⟨w.heap.size, 0, none⟩ (.string na)).setCell ⟨w.heap.size, 1, none⟩ (.string va)).cell? ⟨w.heap.size, 0, none⟩ = some (.string na) := k0
            have k1'' : ((w5.setCell ⟨w.heap.size, 0, none⟩ (.string na)).setCell ⟨w.heap.size, 1, none⟩ (.string va)).cell? ⟨w.heap.size, 1, none⟩ = some (.string va) := k1'
            clear k0 k1' h3 s0 s1 g0 g1 d0 d1
            generalize (w5.setCell ⟨w.heap.size, 0, none⟩ (.string na)).setCell ⟨w.heap.size, 1, none⟩ (.string va) = w9 at k0' k1'' kb ⊢
            go_wp2
            exact bodyPost_ret (v := .tuple #[.agg #[.string na, .string va], .bool ((ck : Int) == 0)]) (by simp [results, Tryd.results28, go_sem, k0', k1'']) rfl ⟨_, _, by rw [← HOK2.out, show ((ck : Int) == 0) = decide (ck = 0) by rw [Bool.eq_iff_iff]; simp], (fun _ => HFF.out.symm), kb⟩))
      · have t1 : ((s[k].toNat : Int) == 58) = false := beq_eq_false_iff_ne.2 (u8_ne (k := 58) (by decide) he)
        have HN2 : Hid (∀ x ∈ s.data.toList.take (k + 1), x ≠ 58) := hide (fun x hx => by
          rw [HTS.out, List.mem_append] at hx
          rcases hx with h1 | h1
          · exact HN.out x h1
          · simp only [List.mem_singleton] at h1
            rw [h1]; exact he)
        clear he HTS
        go_wp2_with fail
        exact ⟨⟨k + 1, by omega, by go_num, trivial, HN2⟩, by simp [intOf]; omega⟩
    · have HC := hide (cu_no (c := 58) (by have := HN.out; rw [take_all s k (by omega)] at this; exact this))
      have E3 : k3 58 s = false := HC.out.2.2
      have hok : ok = false := by rw [← HOK.out]; unfold trOk; rw [E3]; rfl
      subst hok
      have HE3 := hide E3
      clear HC E3 HOK
      have s0 : wr.cell? ⟨w.heap.size, 0, none⟩ = some (.string ⟨#[]⟩) := T0.out.cell 0 rfl 0
      have s1 : wr.cell? ⟨w.heap.size, 1, none⟩ = some (.string ⟨#[]⟩) := T0.out.cell 0 rfl 1
      have g0 : wr.frozen? ⟨w.heap.size, 0, none⟩ = false := T0.out.fr 0 rfl 0
      have g1 : wr.frozen? ⟨w.heap.size, 1, none⟩ = false := T0.out.fr 0 rfl 1
      go_wp2
      have h3 := hp_set (hp_set (T0.out.hp 0 _ _ rfl) 0 (.string ⟨#[]⟩)) 1 (.string ⟨#[]⟩)
      have k0 := cell_at h3 0
      have k1' := cell_at h3 1
      have kb := (T0.out.b.setCell (p := ⟨w.heap.size, 0, none⟩) (Nat.le_refl _) (.string ⟨#[]⟩)).setCell (p := ⟨w.heap.size, 1, none⟩) (Nat.le_refl _) (.string ⟨#[]⟩)
      simp only [Nat.add_zero] at k0 k1'
      generalize (wr.setCell ⟨w.heap.size, 0, none⟩ (.string ⟨#[]⟩)).setCell ⟨w.heap.size, 1, none⟩ (.string ⟨#[]⟩) = w9 at k0 k1' kb ⊢
      clear s0 s1 g0 g1
      exact bodyPost_ret (v := .tuple #[.agg #[.string ⟨#[]⟩, .string ⟨#[]⟩], .bool false]) (by simp [results, Tryd.results28, go_sem, k0, k1']) rfl ⟨_, _, rfl, (fun h => by rw [HE3.out] at h; cases h), kb⟩
end Go.Proofs.YtggeihahbgeneaaDoor
