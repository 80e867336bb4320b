/- The document's own world: each call, as a function of its connections. -/
import Derived.Test.YtpgbpfdgbajhlaaRefOpen
namespace Go.Proofs.Ytpgbpfdgbajhlaa
open Go.ChangeShapes Go.WideShapes Go.ChangeAt Go.RowKit

def ph0 : Ph := ⟨0, .slice none 0 0, .slice none 0 0, none, none⟩

section
variable {W : World} {d : Nat} {S : List Cn} {dr : List Int} {own : Nat → Option Tag} {lv : Value} {lg : Option Nat} {px : Nat → Ph} {dv : Value} {dg : Option Nat} {k : Int} {i : Nat} {x : Cn}

theorem XObj.push (h : XObj W d S dr own lv lg px dv dg) {W' : World} {own' : Nat → Option Tag} {lv' : Value} {lg' : Option Nat} (hfr : Fr (fun b => own b = some .ob ∨ own b = some .om) W W') (ho : ∀ b t, own b = some t → own' b = some t) (hlow : ∀ b t, own' b = some t → b < W'.heap.size) (hblk : W'.heap[d]? = some (.cells #[lv', dv] 29 (0, 0)))
    (hrow : LRow W' lv' (S ++ [fresh k]) (fun j => if j = S.length then ph0 else px j) lg') (ht : ∀ g, lg' = some g → own' g = some .om) : XObj W' d (S ++ [fresh k]) dr own' lv' lg' (fun j => if j = S.length then ph0 else px j) dv dg := by
  have keep : ∀ b t, own b = some t → t ≠ .ob → t ≠ .om → W'.heap[b]? = W.heap[b]? := by
    intro b t e h1 h2
    refine hfr.block b (h.low b t e) ?_
    rw [e]
    rintro (e | e) <;> cases e <;> contradiction
  refine ⟨hblk, ho _ _ h.tag, hlow, h.drw.frame hfr.size (fun g e => keep _ _ (h.dtag g e) nofun nofun), fun g e => ho _ _ (h.dtag g e), hrow, ht, ?_⟩
  intro j y hy
  rcases get_push hy with ⟨rfl, rfl⟩ | ⟨hj, hy⟩
  · simp only [if_true]
    exact ⟨Row.nil _ _, nofun, Row.nil _ _, nofun⟩
  · simp only [if_neg (show j ≠ S.length by omega)]
    exact (h.ent j y hy).frame hfr.size ho (fun _ e => keep _ _ e nofun nofun) (fun _ e => keep _ _ e nofun nofun)

theorem ropen_low (W : World) (d : Nat) (hk : k < 0) : Calls Try.prog 26 #[.pointer (some ⟨d, 0, none⟩), .int .i64 k] W fun e W' => e = .returned (.int .i64 1) ∧ W = W' := by
  go_enter Try.func26, Try.ntmps26
  go_wp2
  go_ret
  exact ⟨rfl, rfl⟩
theorem ropen_was (h : XObj W d S dr own lv lg px dv dg) (hS : SOk S dr) (hk : 0 ≤ k) (hex : ∃ x ∈ S, x.num = k) : Calls Try.prog 26 #[.pointer (some ⟨d, 0, none⟩), .int .i64 k] W fun e W' => e = .returned (.int .i64 7) ∧ Fr (fun _ => False) W W' := by
  have hf := hide (rfind_any h hS.size k)
  have hsz := hS.size
  have HE := hide hex
  clear h hS hex
  go_enter Try.func26, Try.ntmps26
  go_wp2_with fail
  refine hf.out.mono ?_
  rintro e w1 ⟨r, rfl, F1, hr⟩
  rcases hr with ⟨j, y, rfl, hy, hn⟩ | ⟨_, hn⟩
  · have HF := hide F1
    clear F1 hy hn HE hf
    go_wp2_with fail
    go_ret
    exact ⟨rfl, HF.out⟩
  · obtain ⟨x, hx, e⟩ := HE.out
    exact absurd e (hn x hx)
set_option maxRecDepth 20000 in
theorem ropen_full (h : XObj W d S dr own lv lg px dv dg) (hS : SOk S dr) (hk : 0 ≤ k) (hno : ∀ x ∈ S, x.num ≠ k) (hfull : 1024 ≤ (S.filter Cn.isOpen).length) : Calls Try.prog 26 #[.pointer (some ⟨d, 0, none⟩), .int .i64 k] W fun e W' => e = .returned (.int .i64 5) ∧ Fr (fun _ => False) W W' := by
  have hf := hide (rfind_any h hS.size k)
  have HN := hide hno
  have HL := hide h
  have HS := hide hS
  have hlen : (sorted (opens S)).length = (S.filter Cn.isOpen).length := by rw [(sorted_perm _).length_eq]; simp [opens]
  obtain ⟨L, HLs⟩ : ∃ L, Hid (sorted (opens S) = L) := ⟨_, hide rfl⟩
  rw [HLs.out] at hlen
  have hLf : 1024 ≤ L.length := by omega
  have hLc : L.length ≤ 1024 := by have := hS.cnt; omega
  clear h hS hno hfull hlen
  go_enter Try.func26, Try.ntmps26
  go_wp2_with fail
  refine hf.out.mono ?_
  rintro e w1 ⟨r, rfl, F1, hr⟩
  rcases hr with ⟨j, y, rfl, hy, hn⟩ | ⟨rfl, hn⟩
  · exact absurd hn (HN.out y (List.mem_of_getElem? hy))
  · have hAll := hide (rall_any (xfr HL.out F1) HS.out)
    have HF := hide F1
    clear F1 hn HN hf HL HS
    go_wp2_with fail
    refine hAll.out.mono ?_
    rintro e w2 ⟨v, go, rfl, A2⟩
    rw [HLs.out] at A2
    obtain ⟨va, vc, ev, _⟩ := A2.row.sl
    subst ev
    have HF2 := hide (HF.out.trans A2.fr (fun _ _ e => e))
    clear A2 hAll HF
    go_wp2_with fail
    go_ret
    exact ⟨rfl, HF2.out⟩
set_option maxRecDepth 20000 in
theorem ropen_ok (h : XObj W d S dr own lv lg px dv dg) (hS : SOk S dr) (hk : 0 ≤ k) (hno : ∀ x ∈ S, x.num ≠ k) (hfull : (S.filter Cn.isOpen).length < 1024) (hss : S.length ≤ 1048576) : Calls Try.prog 26 #[.pointer (some ⟨d, 0, none⟩), .int .i64 k] W fun e W' => e = .returned (.int .i64 0) ∧ ∃ own', Xd W' d (S ++ [fresh k]) dr own' ∧ Kp own own' W W' := by
  have hf := hide (rfind_any h hS.size k)
  have HN := hide hno
  have HL := hide h
  have HS := hide hS
  have hlen : (sorted (opens S)).length = (S.filter Cn.isOpen).length := by rw [(sorted_perm _).length_eq]; simp [opens]
  obtain ⟨L, HLs⟩ : ∃ L, Hid (sorted (opens S) = L) := ⟨_, hide rfl⟩
  rw [HLs.out] at hlen
  have hLf : L.length < 1024 := by omega
  clear h hS hno hfull hlen
  go_enter Try.func26, Try.ntmps26
  go_wp2_with fail
  refine hf.out.mono ?_
  rintro e w1 ⟨r, rfl, F1, hr⟩
  rcases hr with ⟨j, y, rfl, hy, hn⟩ | ⟨rfl, hn⟩
  · exact absurd hn (HN.out y (List.mem_of_getElem? hy))
  · have hAll := hide (rall_any (xfr HL.out F1) HS.out)
    have HF := hide F1
    clear F1 hn HN hf
    go_wp2_with fail
    refine hAll.out.mono ?_
    rintro e w2 ⟨v, go, rfl, A2⟩
    rw [HLs.out] at A2
    obtain ⟨va, vc, ev, _⟩ := A2.row.sl
    subst ev
    have HF2 := hide (HF.out.trans A2.fr (fun _ _ e => e))
    have hX := xfr HL.out HF2.out
    have HX := hide hX
    have c0 := hX.c0
    obtain ⟨la, lc, el, _⟩ := hX.row.shape
    rw [el] at c0
    have hA := Fr.alloc (fun _ => False) w2 (.cells #[.int .i64 k, .bool true, .bool false, .slice none 0 0, .slice none 0 0, .int .i64 0] 38)
    have hXA := xfr hX hA
    have HRow : Hid (LRow (w2.alloc (.cells #[.int .i64 k, .bool true, .bool false, .slice none 0 0, .slice none 0 0, .int .i64 0] 38)) (.slice la S.length lc) S px lg) := hide (by rw [← el]; exact hXA.row)
    have hh : (w2.alloc (.cells #[.int .i64 k, .bool true, .bool false, .slice none 0 0, .slice none 0 0, .int .i64 0] 38)).heap[w2.heap.size]? = some (.cells #[.int .i64 k, .bool true, .bool false, .slice none 0 0, .slice none 0 0, .int .i64 0] 38 (0, 0)) := (MapKept.heap_alloc w2 _).1
    have HSrc : Hid (∀ j u, (xcells (fresh k) ph0)[j]? = some u → (w2.alloc (.cells #[.int .i64 k, .bool true, .bool false, .slice none 0 0, .slice none 0 0, .int .i64 0] 38)).cell? ((⟨w2.heap.size, 0, none⟩ : Addr).add j) = some u) := hide (fun j u hu => by
      have e2 : (⟨w2.heap.size, 0, none⟩ : Addr).add j = ⟨w2.heap.size, j, none⟩ := by
        unfold Addr.add
        split
        · rename_i h0; rw [h0]
        · simp
      rw [e2, cell_of hh, ← hu]
      simp [xcells, fresh, ph0])
    have HXA := hide hXA
    have hne : ∀ b t, own b = some t → t ≠ .ob → b ≠ d := fun b t e ht eb => by rw [eb, hX.tag] at e; cases e; exact ht rfl
    have HK2 : Hid (∀ W', (w2.alloc (.cells #[.int .i64 k, .bool true, .bool false, .slice none 0 0, .slice none 0 0, .int .i64 0] 38)).grownBy W' lg → W'.heap[d]? = some (.cells #[lv, dv] 29 (0, 0))) := hide (fun W' hg => (hg.block d (lt_of hXA.blk) (fun e => hne d _ (hX.ltag d e.symm) nofun rfl)).trans hXA.blk)
    clear A2 hAll HF hX hXA hh HL HS hA
    go_wp2_with (first
      | (at_builtin; refine wpList_append_conn rfl _ _ rfl _ (.slice la S.length lc) S px lg (fresh k) ph0 ⟨w2.heap.size, 0, none⟩ rfl rfl HRow.out rfl rfl HSrc.out (by omega) ?_
         intro lv' W3 lg' h1 h2 h3
         have hb3 := HK2.out W3 h2
         have k0 : W3.cell? ⟨d, 0, none⟩ = some lv := by rw [cell_of hb3]; rfl
         have kf := frozen_of hb3 0
         obtain ⟨a3, c3, e3, _⟩ := h1.shape
         rw [List.length_append, List.length_cons, List.length_nil, Nat.zero_add] at e3
         subst e3
         replace h1 := hide h1
         replace h2 := hide h2
         replace h3 := hide h3
         replace hb3 := hide hb3)
      | go_in)
    go_ret
    have hA := Fr.alloc (fun _ => False) w2 (.cells #[.int .i64 k, .bool true, .bool false, .slice none 0 0, .slice none 0 0, .int .i64 0] 38)
    have hlow := HX.out.low
    have hgo : lg' = lg ∨ ∃ g, lg' = some g ∧ w2.heap.size ≤ g := h3.out.imp id (fun ⟨g, e1, e2⟩ => ⟨g, e1, Nat.le_trans hA.size e2⟩)
    have hdl := lt_of HX.out.blk
    have hgd : ∀ g, lg' = some g → g ≠ d := by
      intro g e
      rcases hgo with e1 | ⟨g', e1, e2⟩
      · exact hne g _ (HX.out.ltag g (by rw [← e1]; exact e)) nofun
      · rw [e1] at e; cases e; omega
    have hfr : Fr (fun b => own b = some .ob ∨ own b = some .om) w2 (W3.setCell ⟨d, 0, none⟩ (.slice a3 (S.length + 1) c3)) := ((hA.mono (fun _ _ e => e.elim)).trans (Fr.grown h2.out) (fun b _ e => .inr (HX.out.ltag b e))).trans (Fr.set W3 d 0 _) (fun b _ e => by rw [e]; exact .inl HX.out.tag)
    refine ⟨rfl, more own w2.heap.size lg' .om, ⟨_, lg', _, dv, dg, HX.out.push hfr (more_old hlow _ _) (more_low hlow hfr.size (fun g e => ?_)) (by rw [hp_set hb3.out]; rfl) (h1.out.frame (by simp) (fun g e => hp_set_other _ _ _ _ _ (hgd g e))) (more_new hlow hgo HX.out.ltag)⟩, (kfr (own := own) HF2.out).trans ⟨hfr.mono (fun b _ e => by rcases e with e | e <;> rw [e] <;> nofun), more_no _ _⟩⟩
    rcases h1.out with ⟨e1, _⟩ | ⟨g', _, e1, _, _, e2, _⟩
    · rw [e1] at e; cases e
    · rw [e1] at e; cases e; simpa using e2

theorem same_fr {own : Nat → Option Tag} {W W' : World} (h : Xd W d S dr own) (F : Fr (fun _ => False) W W') : Xd W' d S dr own ∧ Kp own own W W' := h.apartF F

theorem rany_open (h : Xd W d S dr own) (hS : SOk S dr) (hss : S.length ≤ 1048576) :
    Calls Try.prog 26 #[ptr d, .int .i64 k] W fun e W' => e = .returned (.int .i64 (sOpen S k).1) ∧ ∃ own', Xd W' d (sOpen S k).2 dr own' ∧ Kp own own' W W' := by
  have hh := h
  obtain ⟨lv, lg, px, dv, dg, h⟩ := h
  unfold sOpen
  by_cases h0 : k < 0
  · simp only [if_pos h0]
    refine (ropen_low W d h0).mono ?_
    rintro e W' ⟨rfl, rfl⟩
    exact ⟨rfl, own, hh, Kp.refl _ _⟩
  · simp only [if_neg h0]
    by_cases h1 : S.any (fun x => x.num == k) = true
    · simp only [if_pos h1]
      obtain ⟨x, hx, e⟩ := List.any_eq_true.1 h1
      refine (ropen_was h hS (by omega) ⟨x, hx, by simpa using e⟩).mono ?_
      rintro e W' ⟨rfl, F⟩
      exact ⟨rfl, own, hh.apartF F⟩
    · simp only [if_neg h1]
      have hno : ∀ x ∈ S, x.num ≠ k := fun x hx e => h1 (List.any_eq_true.2 ⟨x, hx, by simpa using e⟩)
      by_cases h2 : 1024 ≤ (S.filter Cn.isOpen).length
      · simp only [if_pos h2]
        refine (ropen_full h hS (by omega) hno h2).mono ?_
        rintro e W' ⟨rfl, F⟩
        exact ⟨rfl, own, hh.apartF F⟩
      · simp only [if_neg h2]
        exact ropen_ok h hS (by omega) hno (by omega) hss
theorem rany_close (h : Xd W d S dr own) (hS : SOk S dr) :
    Calls Try.prog 27 #[ptr d, .int .i64 k] W fun e W' => e = .returned (.int .i64 (sClose S k).1) ∧ ∃ own', Xd W' d (sClose S k).2 dr own' ∧ Kp own own' W W' := by
  have hh := h
  obtain ⟨lv, lg, px, dv, dg, h⟩ := h
  unfold sClose
  rcases withAt_cases S k with ⟨i, x, hx, rfl, ho, hw⟩ | ⟨hn, hw⟩
  · rw [hw]
    refine (rclose_yes h hS hx ho).mono ?_
    rintro e W' ⟨rfl, h1, h2⟩
    exact ⟨rfl, own, h1, h2⟩
  · rw [hw]
    refine (rclose_none W d k (hide (rat_no h hS hn))).mono ?_
    rintro e W' ⟨rfl, F⟩
    exact ⟨rfl, own, hh.apartF F⟩
theorem rany_end (h : Xd W d S dr own) (hS : SOk S dr) :
    Calls Try.prog 30 #[ptr d, .int .i64 k] W fun e W' => e = .returned (.int .i64 (sEnd S k).1) ∧ ∃ own', Xd W' d (sEnd S k).2 dr own' ∧ Kp own own' W W' := by
  have hh := h
  obtain ⟨lv, lg, px, dv, dg, h⟩ := h
  unfold sEnd
  rcases withAt_cases S k with ⟨i, x, hx, rfl, ho, hw⟩ | ⟨hn, hw⟩
  · rw [hw]
    refine (rend_yes h hS hx ho).mono ?_
    rintro e W' ⟨rfl, h1, h2⟩
    exact ⟨rfl, own, h1, h2⟩
  · rw [hw]
    refine (rend_none W d k (hide (rat_no h hS hn))).mono ?_
    rintro e W' ⟨rfl, F⟩
    exact ⟨rfl, own, hh.apartF F⟩
theorem rany_room (h : Xd W d S dr own) (hS : SOk S dr) (n : Int) :
    Calls Try.prog 32 #[ptr d, .int .i64 k, .int .i64 n] W fun e W' => e = .returned (.int .i64 (sRoom S k n).1) ∧ ∃ own', Xd W' d (sRoom S k n).2 dr own' ∧ Kp own own' W W' := by
  have hh := h
  obtain ⟨lv, lg, px, dv, dg, h⟩ := h
  unfold sRoom
  rcases withAt_cases S k with ⟨i, x, hx, rfl, ho, hw⟩ | ⟨hn, hw⟩
  · rw [hw]
    by_cases h0 : n < 0
    · simp only [if_pos h0]
      refine (rroom_bad h hS hx ho h0).mono ?_
      rintro e W' ⟨rfl, F⟩
      exact ⟨rfl, own, hh.apartF F⟩
    · simp only [if_neg h0]
      refine (rroom_yes h hS hx ho (by omega)).mono ?_
      rintro e W' ⟨rfl, h1, h2⟩
      exact ⟨rfl, own, h1, h2⟩
  · rw [hw]
    refine (rroom_none W d k n (hide (rat_no h hS hn))).mono ?_
    rintro e W' ⟨rfl, F⟩
    exact ⟨rfl, own, hh.apartF F⟩
theorem rany_arrive (h : Xd W d S dr own) (hS : SOk S dr) {a' : Option Addr} {cap' : Nat} {X : List Int} (hX : Sl W .u8 (.slice a' X.length cap') X) (hl : X.length ≤ 140737488355328) :
    Calls Try.prog 28 #[ptr d, .int .i64 k, .slice a' X.length cap'] W fun e W' => e = .returned (.int .i64 (sArrive S k X).1) ∧ ∃ own', Xd W' d (sArrive S k X).2 dr own' ∧ Kp own own' W W' := by
  have hh := h
  obtain ⟨lv, lg, px, dv, dg, h⟩ := h
  unfold sArrive
  rcases withAt_cases S k with ⟨i, x, hx, rfl, ho, hw⟩ | ⟨hn, hw⟩
  · rw [hw]
    by_cases h0 : x.ended = true
    · simp only [if_pos h0]
      refine (rarrive_ended h hS hx ho h0 _).mono ?_
      rintro e W' ⟨rfl, F⟩
      exact ⟨rfl, own, hh.apartF F⟩
    · simp only [if_neg h0]
      have h0' : x.ended = false := by simpa using h0
      by_cases h1 : 1048576 < x.waits.length + X.length
      · simp only [if_pos h1]
        refine (rarrive_long h hS hx ho h0' _ _ _ hl h1).mono ?_
        rintro e W' ⟨rfl, F⟩
        exact ⟨rfl, own, hh.apartF F⟩
      · simp only [if_neg h1]
        exact rarrive_yes h hS hx ho h0' hX (by omega)
  · rw [hw]
    refine (rarrive_none W d k _ (hide (rat_no h hS hn))).mono ?_
    rintro e W' ⟨rfl, F⟩
    exact ⟨rfl, own, hh.apartF F⟩
theorem rany_read (h : Xd W d S dr own) (hS : SOk S dr) (n : Int) :
    Calls Try.prog 31 #[ptr d, .int .i64 k, .int .i64 n] W fun e W' => ∃ v' go own', e = .returned (.tuple #[v', .int .i64 (sRead S k n).1.2]) ∧ Row W' .u8 v' (sRead S k n).1.1 go ∧ (∀ g, go = some g → W.heap.size ≤ g ∧ own' g = none) ∧ Xd W' d (sRead S k n).2 dr own' ∧ Kp own own' W W' := by
  have hh := h
  obtain ⟨lv, lg, px, dv, dg, h⟩ := h
  unfold sRead
  rcases withAt_cases S k with ⟨i, x, hx, rfl, ho, hw⟩ | ⟨hn, hw⟩
  · rw [hw]
    exact rread_yes h hS hx ho n
  · rw [hw]
    refine (rread_none W d k n (hide (rat_no h hS hn))).mono ?_
    rintro e W' ⟨rfl, F⟩
    exact ⟨_, none, own, rfl, Row.nil _ _, nofun, hh.apartF F⟩
theorem rany_write (h : Xd W d S dr own) (hS : SOk S dr) {a' : Option Addr} {cap' : Nat} {X : List Int} (hX : Sl W .u8 (.slice a' X.length cap') X) (hXo : 0 < X.length → ∀ b off n c, (.slice a' X.length cap' : Value) = .slice (some ⟨b, off, none⟩) n c → own b = none) (hl : X.length ≤ 1048576) (hls : ∀ x ∈ S, x.sent.length ≤ 1048576) :
    Calls Try.prog 33 #[ptr d, .int .i64 k, .slice a' X.length cap'] W fun e W' => e = .returned (.tuple #[.int .i64 (sWrite S k X).1.1, .int .i64 (sWrite S k X).1.2]) ∧ ∃ own', Xd W' d (sWrite S k X).2 dr own' ∧ Kp own own' W W' := by
  have hh := h
  obtain ⟨lv, lg, px, dv, dg, h⟩ := h
  unfold sWrite
  rcases withAt_cases S k with ⟨i, x, hx, rfl, ho, hw⟩ | ⟨hn, hw⟩
  · rw [hw]
    have hr := hS.rm x (List.mem_of_getElem? hx)
    refine (rwrite_yes h hS hx ho hX hXo hl (hls x (List.mem_of_getElem? hx))).mono ?_
    rintro e W' ⟨rfl, own', h1, h2⟩
    refine ⟨rfl, own', ?_, h2⟩
    have e : wrote x X (min (X.length : Int) x.room).toNat = { x with sent := x.sent ++ X.take (min (X.length : Int) x.room).toNat, room := x.room - min (X.length : Int) x.room } := by
      unfold wrote
      rw [Int.toNat_of_nonneg (by omega)]
    rw [← e]; exact h1
  · rw [hw]
    refine (rwrite_none W d k _ (hide (rat_no h hS hn))).mono ?_
    rintro e W' ⟨rfl, F⟩
    exact ⟨rfl, own, hh.apartF F⟩
theorem rany_sent (h : Xd W d S dr own) (hS : SOk S dr) : Calls Try.prog 13 #[ptr d, .int .i64 k] W fun e W' => ∃ v go, e = .returned v ∧ Row W' .u8 v (sSent S k) go ∧ Xd W' d S dr own ∧ Kp own own W W' := by
  have hh := h
  obtain ⟨lv, lg, px, dv, dg, h⟩ := h
  unfold sSent
  cases hf : S.find? (fun x => x.num == k) with
  | none =>
    refine (rsent_no h hS (fun x hx e => by have := List.find?_eq_none.1 hf x hx; simp [e] at this)).mono ?_
    rintro e W' ⟨rfl, F⟩
    exact ⟨_, none, rfl, Row.nil _ _, hh.apartF F⟩
  | some x =>
    have hx := List.mem_of_find?_eq_some hf
    have he := List.find?_some hf
    simp only [beq_iff_eq] at he
    subst he
    obtain ⟨i, hi, e⟩ := List.getElem_of_mem hx
    have hxi : S[i]? = some x := by rw [List.getElem?_eq_getElem hi, e]
    refine (rsent_yes h hS hxi).mono ?_
    rintro e W' ⟨rfl, F⟩
    exact ⟨_, (px i).sg, rfl, ((xfr h F).ent i x hxi).srow, hh.apartF F⟩
theorem rany_all (h : Xd W d S dr own) (hS : SOk S dr) : Calls Try.prog 16 #[ptr d] W fun e W' => ∃ v go, e = .returned v ∧ Row W' .i64 v (sorted (opens S)) go ∧ (∀ g, go = some g → W.heap.size ≤ g ∧ own g = none) ∧ Xd W' d S dr own ∧ Kp own own W W' := by
  have hh := h
  obtain ⟨lv, lg, px, dv, dg, h⟩ := h
  refine (rall_any h hS).mono ?_
  rintro e W' ⟨v, go, rfl, A⟩
  refine ⟨v, go, rfl, A.row, fun g e => ⟨A.new g e, ?_⟩, hh.apartF A.fr⟩
  cases ho : own g with
  | none => rfl
  | some t => have h1 := h.low g t ho; have h2 := A.new g e; omega
/-- A world of the document's that nothing has been done with. -/
theorem Xd.begin (W : World) : Xd (W.alloc (.cells #[.slice none 0 0, .slice none 0 0] 29)) W.heap.size [] [] (ownOne W.heap.size) := by
  refine ⟨_, none, fun _ => ph0, _, none, (MapKept.heap_alloc W _).1, by simp [ownOne], ?_, Row.nil _ _, nofun, .inl ⟨rfl, rfl, rfl⟩, nofun, nofun⟩
  intro b t e
  unfold ownOne at e
  split at e
  · rename_i hb; rw [hb]; simp
  · cases e
end
end Go.Proofs.Ytpgbpfdgbajhlaa
