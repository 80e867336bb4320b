/- Rows of hosts; how many connections they may have together: the program's. -/
import Derived.Test.YtekkhjlipijmcaaGreatDoorZFits
namespace Go.Proofs.YtekkhjlipijmcaaGreatDoor
open Go.ChangeShapes Go.WideShapes Go.ChangeAt Go.RowKit

/-- A host: its name, its cap, how many may wait. -/
structure Hst where
  nm : ByteArray
  ca : Int
  pe : Int
/-- The slice v reads as the hosts L, wherever it begins. -/
def HRow (W : World) (v : Value) (L : List Hst) : Prop := ∃ (a : Option Addr) (c : Nat), v = .slice a L.length c ∧ ∀ j (h : j < L.length), ∃ g o, a = some ⟨g, o, none⟩ ∧ g < W.heap.size ∧ W.cell? ⟨g, o + j * 3, none⟩ = some (.string L[j].nm) ∧ W.cell? ⟨g, o + j * 3 + 1, none⟩ = some (.int .i64 L[j].ca) ∧ W.cell? ⟨g, o + j * 3 + 2, none⟩ = some (.int .i64 L[j].pe)
theorem HRow.below {W W' : World} {v : Value} {L : List Hst} (h : HRow W v L) (hb : Below W.heap.size W W') : HRow W' v L := by
  obtain ⟨a, c, rfl, hc⟩ := h
  refine ⟨a, c, rfl, fun j hj => ?_⟩
  obtain ⟨g, o, h1, h2, h3, h4, h5⟩ := hc j hj
  exact ⟨g, o, h1, Nat.lt_of_lt_of_le h2 hb.size, (hb.cell (p := ⟨g, o + j * 3, none⟩) h2).trans h3, (hb.cell (p := ⟨g, o + j * 3 + 1, none⟩) h2).trans h4, (hb.cell (p := ⟨g, o + j * 3 + 2, none⟩) h2).trans h5⟩
def capsI (L : List Hst) : Int := (L.map (·.ca)).sum
theorem capsI_snoc (L : List Hst) (k : Nat) (h : k < L.length) : capsI (L.take (k + 1)) = capsI (L.take k) + L[k].ca := by
  unfold capsI
  rw [List.take_succ_eq_append_getElem h, List.map_append, List.sum_append]
  simp
theorem capsI_le (L : List Hst) (hl : L.length ≤ 16) (hc : ∀ x ∈ L, 0 ≤ x.ca ∧ x.ca ≤ 64) (k : Nat) (hk : k ≤ L.length) : 0 ≤ capsI (L.take k) ∧ capsI (L.take k) ≤ 64 * (k : Int) := by
  induction k with
  | zero => simp [capsI]
  | succ k ih =>
    have h := ih (by omega)
    have hm := hc L[k] (List.getElem_mem (by omega))
    rw [capsI_snoc L k (by omega)]
    omega
set_option maxHeartbeats 1000000 in
theorem caps_any (w : World) (v : Value) (L : List Hst) (h : HRow w v L) (hl : L.length ≤ 16) (hcs : ∀ x ∈ L, 0 ≤ x.ca ∧ x.ca ≤ 64) :
    Calls Tryz.prog 14 #[v] w fun e w' => e = .returned (.int .i64 (capsI L)) ∧ Below w.heap.size w w' := by
  have HL := hide (capsI_le L hl hcs)
  have H0 := hide h
  obtain ⟨a, c, rfl, _⟩ := h
  clear hcs
  go_enter Tryz.func14, Tryz.ntmps14
  go_wp2
  go_loopw [8, 3] (fun i s wr => ∃ (k : Nat) (z : Int), k ≤ L.length ∧ i = .int .i64 k ∧ s = .int .i64 z ∧ (0 ≤ z ∧ z ≤ 64 * (k : Int)) ∧ Hid (z = capsI (L.take k)) ∧ Hid (Below w.heap.size w wr)) (fun i _ _ => L.length - (intOf i).toNat)
  case atStart => exact ⟨0, 0, Nat.zero_le _, rfl, rfl, by omega, hide rfl, hide (Below.refl _ _)⟩
  case round =>
    obtain ⟨k, z, hk, rfl, rfl, hz, H, HB⟩ := hrel
    by_cases hlt : k < L.length
    · obtain ⟨a2, c2, he2, hcv⟩ := H0.out.below HB.out
      simp only [Value.slice.injEq, true_and] at he2
      obtain ⟨rfl, rfl⟩ := he2
      obtain ⟨g, o, rfl, hg, r0, r1, r2⟩ := hcv k hlt
      have HS := hide (capsI_snoc L k hlt)
      have hz2 := HL.out (k + 1) (by omega)
      rw [HS.out, ← H.out] at hz2
      rw [← H.out] at HS
      generalize L[k] = y at r0 r1 r2 HS hz2
      obtain ⟨nm, ca, pe⟩ := y
      simp only at r0 r1 r2 hz2
      clear hcv hg
      go_wp2
      exact ⟨⟨k + 1, z + ca, by omega, by go_num, by go_num, by omega, hide HS.out.symm, hide (HB.out.trans ((Bl.one wr _ _).b.mono HB.out.size))⟩, by simp [intOf]; omega⟩
    · have HE : Hid (z = capsI L) := hide (by rw [H.out, List.take_of_length_le (by omega)])
      go_wp2
      go_ret
      exact ⟨ret_int HE.out, HB.out⟩
end Go.Proofs.YtekkhjlipijmcaaGreatDoor
