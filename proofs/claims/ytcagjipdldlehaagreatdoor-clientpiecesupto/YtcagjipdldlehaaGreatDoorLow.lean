/- A text in small letters: the program's and the document's. -/
import Derived.Test.YtcagjipdldlehaaGreatDoorApp
namespace Go.Proofs.YtcagjipdldlehaaGreatDoor
open Go.ChangeShapes Go.WideShapes Go.ChangeAt Go.RowKit

def lowS (s : ByteArray) : ByteArray := ⟨(lowerB s.data.toList).toArray⟩
theorem lowS_size (s : ByteArray) : (lowS s).size = s.size := by
  show (lowerB s.data.toList).length = s.size
  simp [lowerB]
theorem lowS_list (s : ByteArray) : (lowS s).data.toList = lowerB s.data.toList := by simp [lowS]
theorem lowc_up {c : UInt8} (h : 65 ≤ c.toNat) (h2 : c.toNat ≤ 90) : ((lowc c).toNat : Int) = c.toNat + 32 := by
  unfold lowc
  rw [if_pos ⟨h, h2⟩, UInt8.toNat_ofNat']
  omega
theorem lowc_id {c : UInt8} (h : ¬ (65 ≤ c.toNat ∧ c.toNat ≤ 90)) : lowc c = c := by unfold lowc; rw [if_neg h]

/-- Behind k rounds: the first k bytes are small. -/
structure Low (w wr : World) (s : ByteArray) (k : Nat) : Prop where
  blk : ∃ C, wr.heap[w.heap.size]? = some (.cells C 5 (C.size, C.size + 1)) ∧ ∀ j (h : j < s.size), C[j]? = some (.int .u8 ((if j < k then lowc s[j] else s[j]).toNat : Int))
  below : Below w.heap.size w wr
theorem Low.start (w : World) (s : ByteArray) (cap : Nat) : Low w (w.drew.alloc (.cells (bytesRow s cap) 5 ((bytesRow s cap).size, (bytesRow s cap).size + 1))) s 0 := by
  refine ⟨⟨bytesRow s cap, hp_new w.drew _, fun j h => ?_⟩, ((Below.refl _ w).drew).alloc (Nat.le_refl _) _⟩
  rw [bytesRow_at s cap j h, if_neg (by omega)]
  rfl
theorem Low.cell {w wr : World} {s : ByteArray} {k : Nat} (h : Low w wr s k) (hk : k < s.size) : wr.cell? ⟨w.heap.size, k, none⟩ = some (.int .u8 (s[k].toNat : Int)) := by
  obtain ⟨C, h1, h2⟩ := h.blk
  rw [cell_at h1, h2 k hk, if_neg (by omega)]
theorem Low.frozen {w wr : World} {s : ByteArray} {k : Nat} (h : Low w wr s k) (hk : k < s.size) : wr.frozen? ⟨w.heap.size, k, none⟩ = false := by
  obtain ⟨C, h1, h2⟩ := h.blk
  have : k < C.size := by
    have := h2 k hk
    exact (Array.getElem?_eq_some_iff.1 this).1
  rw [frozen_at h1]
  simp; omega
theorem Low.skip {w wr : World} {s : ByteArray} {k : Nat} (h : Low w wr s k) (hk : k < s.size) (hi : lowc s[k] = s[k]) : Low w wr s (k + 1) := by
  obtain ⟨C, h1, h2⟩ := h.blk
  refine ⟨⟨C, h1, fun j hj => ?_⟩, h.below⟩
  rw [h2 j hj]
  by_cases e : j = k
  · subst e
    rw [if_neg (by omega), if_pos (by omega), hi]
  · by_cases e2 : j < k
    · rw [if_pos e2, if_pos (by omega)]
    · rw [if_neg e2, if_neg (by omega)]
theorem Low.step {w wr : World} {s : ByteArray} {k : Nat} (h : Low w wr s k) (hk : k < s.size) {x : Int} (hx : ((lowc s[k]).toNat : Int) = x) : Low w (wr.setCell ⟨w.heap.size, k, none⟩ (.int .u8 x)) s (k + 1) := by
  obtain ⟨C, h1, h2⟩ := h.blk
  have hC : k < C.size := (Array.getElem?_eq_some_iff.1 (h2 k hk)).1
  refine ⟨⟨C.setIfInBounds k (.int .u8 x), ?_, fun j hj => ?_⟩, h.below.setCell (Nat.le_refl _) _⟩
  · have := hp_set h1 k (.int .u8 x)
    rw [this]
    simp
  · rw [Array.getElem?_setIfInBounds]
    by_cases e : k = j
    · subst e
      rw [if_pos rfl, if_pos hC, if_pos (by omega), hx]
    · rw [if_neg e, h2 j hj]
      by_cases e2 : j < k
      · rw [if_pos e2, if_pos (by omega)]
      · rw [if_neg e2, if_neg (by omega)]
theorem Low.text {w wr : World} {s : ByteArray} {k : Nat} (h : Low w wr s k) (hk : s.size ≤ k) (cap : Nat) : (convert 31 9 (.slice (some ⟨w.heap.size, 0, none⟩) s.size cap)).run Tryz.prog wr = .ok (.string (lowS s)) wr := by
  obtain ⟨C, h1, h2⟩ := h.blk
  have hl : s.size = (lowerB s.data.toList).length := by simp [lowerB]
  rw [hl]
  refine run_convert_bytes_back wr 31 9 5 ⟨w.heap.size, 0, none⟩ cap (lowerB s.data.toList) Tryz.underlying31 Tryz.underlying5 Tryz.underlying9 (fun j hj => ?_)
  have e : (⟨w.heap.size, 0, none⟩ : Addr).add j = ⟨w.heap.size, j, none⟩ := by unfold Addr.add; split <;> simp_all
  rw [e, cell_at h1, h2 j (by omega), if_pos (by omega)]
  simp [lowerB]
  rfl

set_option maxHeartbeats 400000 in
theorem lower_any (s : ByteArray) (w : World) (hs : s.size ≤ maxLen) :
    Calls Tryz.prog 158 #[.string s] w fun e w' => e = .returned (.string (lowS s)) ∧ Below w.heap.size w w' := by
  unfold maxLen at hs
  have hconv := run_bytes_of_string (P := Tryz.prog) w 9 31 5 s Tryz.underlying9 Tryz.underlying31 Tryz.underlying5
  generalize grownCap w s.size 0 5 = cap at hconv
  have HS := hide (Low.start w s cap)
  go_enter Tryz.func158, Tryz.ntmps158
  go_wp2
  clear hconv
  go_loopw [10] (fun i wr => ∃ k : Nat, k ≤ s.size ∧ i = .int .i64 k ∧ Hid (Low w wr s k)) (fun i _ => s.size - (intOf i).toNat)
  case atStart => exact ⟨0, Nat.zero_le _, rfl, HS⟩
  case round =>
    clear HS
    obtain ⟨k, hk, rfl, H⟩ := hrel
    by_cases hlt : k < s.size
    · have hc := H.out.cell hlt
      have hf := H.out.frozen hlt
      have hb := byte_lt s[k]
      by_cases hu : 65 ≤ s[k].toNat ∧ s[k].toNat ≤ 90
      · obtain ⟨h1, h2⟩ := hu
        have HL := hide (lowc_up h1 h2)
        go_wp2
        exact ⟨⟨k + 1, by omega, by go_num, H.out.step hlt (by rw [HL.out]; omega)⟩, by simp [intOf]; omega⟩
      · have HL := hide (H.out.skip hlt (lowc_id hu))
        by_cases h1 : 65 ≤ s[k].toNat
        · have h2 : 90 < s[k].toNat := by omega
          clear hu
          go_wp2
          exact ⟨⟨k + 1, by omega, by go_num, HL⟩, by simp [intOf]; omega⟩
        · clear hu
          go_wp2
          exact ⟨⟨k + 1, by omega, by go_num, HL⟩, by simp [intOf]; omega⟩
    · have ht := H.out.text (show s.size ≤ k by omega) cap
      go_wp2
      go_ret
      exact ⟨rfl, H.out.below⟩

/-! ### The document's -/
theorem low_snoc (s : ByteArray) (k : Nat) (h : k < s.size) : lowerB (s.data.toList.take (k + 1)) = lowerB (s.data.toList.take k) ++ [lowc s[k]] := by
  rw [take_snoc s k h]; simp [lowerB]
theorem low_len (s : ByteArray) (k : Nat) (h : k ≤ s.size) : (bc (lowerB (s.data.toList.take k))).length = k := by
  simp [bc, lowerB]; omega
set_option maxHeartbeats 400000 in
theorem rlower_any (s : ByteArray) (w : World) (hs : s.size ≤ 140737488355328) :
    Calls Tryz.prog 107 #[.string s] w fun e w' => e = .returned (.string (lowS s)) ∧ Below w.heap.size w w' := by
  go_enter Tryz.func107, Tryz.ntmps107
  go_wp2
  go_loopw [3, 4] (fun o i wr => ∃ k : Nat, k ≤ s.size ∧ i = .int .i64 k ∧ Hid (Row wr w.heap.size 5 o (bc (lowerB (s.data.toList.take k)))) ∧ Hid (Below w.heap.size w wr)) (fun _ i _ => s.size - (intOf i).toNat)
  case atStart => exact ⟨0, Nat.zero_le _, rfl, hide (Row.nil _ _ _), hide (Below.refl _ _)⟩
  case round =>
    obtain ⟨k, hk, rfl, HR, HB⟩ := hrel
    have HN := hide (low_len s k hk)
    by_cases hlt : k < s.size
    · have hb := byte_lt s[k]
      have HS := hide (low_snoc s k hlt)
      obtain ⟨a, c, rfl, _, _⟩ := HR.out.shape
      have HR2 : ∀ (x : Int) (v : Value) (W : World), ((lowc s[k]).toNat : Int) = x → Row W w.heap.size 5 v (bc (lowerB (s.data.toList.take k)) ++ [.int .u8 x]) → Row W w.heap.size 5 v (bc (lowerB (s.data.toList.take (k + 1)))) := by
        intro x v W hx h
        rw [HS.out, bc_snoc, hx]
        exact h
      have HR3 := hide HR2
      clear HR2
      by_cases hu : 65 ≤ s[k].toNat ∧ s[k].toNat ≤ 90
      · have HL := hide (lowc_up hu.1 hu.2)
        obtain ⟨h1, h2⟩ := hu
        go_wp2_with (at_builtin; apply Hid.out)
        unfold Hid
        refine wpList_append_one elB rfl _ _ rfl wr w.heap.size (.slice a (bc (lowerB (s.data.toList.take k))).length c) (bc (lowerB (s.data.toList.take k))) (.int .u8 ((s[k].toNat : Int) - 65 + 97)) rfl rfl HR.out rfl (by rw [HN.out]; omega) (by rw [HN.out]; omega) HB.out.size ?_
        intro v' w' O' B'
        have O2 := hide O'
        have B2 := hide (HB.out.trans B')
        clear O' B'
        go_wp2
        exact ⟨⟨k + 1, by omega, by go_num, hide (HR3.out _ _ _ (by rw [HL.out]; omega) O2.out), B2⟩, by simp [intOf]; omega⟩
      · have HL := hide (lowc_id hu)
        by_cases h1 : 65 ≤ s[k].toNat
        · have h2 : 90 < s[k].toNat := by omega
          clear hu
          go_wp2_with (at_builtin; apply Hid.out)
          unfold Hid
          refine wpList_append_one elB rfl _ _ rfl wr w.heap.size (.slice a (bc (lowerB (s.data.toList.take k))).length c) (bc (lowerB (s.data.toList.take k))) (.int .u8 (s[k].toNat : Int)) rfl rfl HR.out rfl (by rw [HN.out]; omega) (by rw [HN.out]; omega) HB.out.size ?_
          intro v' w' O' B'
          have O2 := hide O'
          have B2 := hide (HB.out.trans B')
          clear O' B'
          go_wp2
          exact ⟨⟨k + 1, by omega, by go_num, hide (HR3.out _ _ _ (by rw [HL.out]) O2.out), B2⟩, by simp [intOf]; omega⟩
        · clear hu
          go_wp2_with (at_builtin; apply Hid.out)
          unfold Hid
          refine wpList_append_one elB rfl _ _ rfl wr w.heap.size (.slice a (bc (lowerB (s.data.toList.take k))).length c) (bc (lowerB (s.data.toList.take k))) (.int .u8 (s[k].toNat : Int)) rfl rfl HR.out rfl (by rw [HN.out]; omega) (by rw [HN.out]; omega) HB.out.size ?_
          intro v' w' O' B'
          have O2 := hide O'
          have B2 := hide (HB.out.trans B')
          clear O' B'
          go_wp2
          exact ⟨⟨k + 1, by omega, by go_num, hide (HR3.out _ _ _ (by rw [HL.out]) O2.out), B2⟩, by simp [intOf]; omega⟩
    · have ht := HR.out.text
      rw [take_all s k (by omega)] at ht
      go_wp2
      go_ret
      exact ⟨rfl, HB.out⟩

theorem str_beq (a b : ByteArray) : (a.toList == b.toList) = decide (a.data.toList = b.data.toList) := by rw [Lib.toList_data, Lib.toList_data, beq_list]
theorem same_eq (a b : ByteArray) : ((lowS a).toList == (lowS b).toList) = sameB a.data.toList b.data.toList := by rw [str_beq, lowS_list, lowS_list]; rfl
end Go.Proofs.YtcagjipdldlehaaGreatDoor
