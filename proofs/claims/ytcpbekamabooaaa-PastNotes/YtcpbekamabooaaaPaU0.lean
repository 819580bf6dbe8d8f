/- The law's own past: note of one that did not go on, by a record of kind that tells nothing. Written by x_pan.py. -/
import Derived.Test.YtcpbekamabooaaaPaS

import Derived.Deep.RegionHeld3
namespace Go.Proofs.Ytcpbekamabooaaa.Pa
open Go.RowKit Gm
set_option linter.unusedVariables false
set_option linter.unusedSimpArgs false
set_option maxRecDepth 100000
theorem load_sg {w : World} {b k n c : Nat} {a : Option Addr} (h : w.cell? ⟨b, k, none⟩ = some (.slice a n c)) : (Instr.loadAt 26 (.pointer (some ⟨b, k, none⟩))).run Try.prog w = .ok (.slice a n c) w := by
  go_simp
section
variable {W W' : Nat → Prop} {w w' : World} {pb : Nat} {v : Value} {L : List Gv} {P : List Gn} {I T : Value}
set_option maxHeartbeats 4000000 in
theorem note_new0 (h : Pl W w pb P) (hl : P.length ≤ 999) (tx pv pg ac nx ep nd : Int) (ky ol nw : ByteArray) (kd : Int) (k7 : kd ≠ 7) (k8 : kd ≠ 8) (ht : tellsM ⟨kd, tx, pv, pg, ac, ky, ol, nw, nx, ep, nd⟩ = none) (hx : tx ≠ 0) (hf : ¬ fnd P tx < P.length) (lsn : Int) : Calls Try.prog 8 #[.pointer (some ⟨pb, 0, none⟩), .agg (Rc.A ⟨kd, tx, pv, pg, ac, ky, ol, nw, nx, ep, nd⟩ I T), .int .i64 lsn] w fun e w' => e = .returned (.tuple #[]) ∧ NtO W w w' pb (noteM P ⟨kd, tx, pv, pg, ac, ky, ol, nw, nx, ep, nd⟩ lsn) := by
  rw [note_more (r := ⟨kd, tx, pv, pg, ac, ky, ol, nw, nx, ep, nd⟩) hx k7 k8 hf]
  have e7 : (kd == 7) = false := by simpa using k7
  have e8 : (kd == 8) = false := by simpa using k8
  have k3 : (kd != 3) = true := by
    unfold tellsM at ht
    split at ht
    · cases ht
    · simpa using ‹_›
  obtain ⟨k4, k5⟩ : (kd != 4) = true ∧ (kd != 5) = true := by
    unfold tellsM at ht
    split at ht
    · cases ht
    · split at ht
      · cases ht
      · rename_i h5
        simp only [bne_iff_ne, ne_eq]
        exact ⟨fun e => h5 (Or.inl e), fun e => h5 (Or.inr e)⟩
  have hlt := h.lt
  have CF : Hid (∀ wx, Below w.heap.size w wx → Calls Try.prog 20 #[.pointer (some ⟨pb, 0, none⟩), .int .i64 tx] wx fun e w' => e = .returned (.int .i64 (-1)) ∧ w' = wx) := fun wx hb => by
    have := find_any (h.bel hb) tx (by omega)
    have e : fI P tx = -1 := if_neg hf
    rw [e] at this
    exact this
  obtain ⟨v, L, h1, rfl, hz⟩ := h.ex
  obtain ⟨a, c0, ev, hcc⟩ := h1.row.sl
  subst ev
  rw [List.length_map] at h1 hl
  generalize hPP : L.map Gv.g ++ [(zG tx).turn ⟨kd, tx, pv, pg, ac, ky, ol, nw, nx, ep, nd⟩ lsn] = Q
  clear h hf
  obtain ⟨i, hi⟩ : ∃ i, i = L.length := ⟨_, rfl⟩
  rw [← hi] at h1 hl
  have HP : Hid (∀ wx, Below w.heap.size w wx → PlI W wx pb (.slice a i c0) L) := fun wx hb => h1.keep fun j hj => hb.block j (hlt j hj)
  have HW : Hid (∀ j, W j → j < w.heap.size) := hlt
  have HL : Hid (i = L.length) := hi
  have HQ : Hid (L.map Gv.g ++ [(zG tx).turn ⟨kd, tx, pv, pg, ac, ky, ol, nw, nx, ep, nd⟩ lsn] = Q) := hPP
  have HZ : Hid (∀ j (hj : j < L.length), L[j].kl.length = L[j].wl.length) := hz
  have oneG : Hid (∀ u ∈ (#[.int .i64 tx, .int .i64 0, .slice none 0 0, .slice none 0 0] : Array Value).toList, u.oneCell' = true) := (fun u hu => by simp at hu; rcases hu with rfl | rfl | rfl <;> rfl : ∀ u ∈ (#[.int .i64 tx, .int .i64 0, .slice none 0 0, .slice none 0 0] : Array Value).toList, u.oneCell' = true)
  have klen : Hid ((L.map Gv.c).length ≤ 90000) := (by rw [List.length_map]; omega : (L.map Gv.c).length ≤ 90000)
  have HT0 : Hid (tellsM ⟨kd, tx, pv, pg, ac, ky, ol, nw, nx, ep, nd⟩ = none) := ht
  clear h1 hlt hPP hz ht hi hcc
  have hiI : (i : Int) < ((i + 1 : Nat) : Int) := by omega
  have hi0 : ¬ (i : Int) < 0 := by omega
  skip
  go_enter Try.func8, Try.ntmps8
  go_wp2_with (first
    | (refine wpList_box_at (A := Rc.A ⟨kd, tx, pv, pg, ac, ky, ol, nw, nx, ep, nd⟩ I T) _ rfl _ rfl rfl ?_; intro w1 b1 N1; have c1 : w1.cell? ⟨b1, 1, none⟩ = some (.int .i64 tx) := N1.is.c 1; have k0 : w1.cell? ⟨b1, 0, none⟩ = some (.int .i64 kd) := N1.is.c 0; have p0 := (HP.out _ N1.bel).is.c 0; simp only [List.getElem?_toArray, List.getElem?_cons_zero] at p0)
    | (go_at_call 20; refine (CF.out _ N1.bel).mono ?_; rintro e w1 ⟨rfl, rfl⟩))
  have R1 : Hid (At w1 b1 33 (Rc.A ⟨kd, tx, pv, pg, ac, ky, ol, nw, nx, ep, nd⟩ I T)) := N1.is
  have B1 : Hid (Below w.heap.size w w1) := N1.bel
  have KS : Hid (∀ wx, Below w1.heap.size w1 wx → wx.cell? ⟨b1, 1, none⟩ = some (.int .i64 tx)) := fun wx hb => (R1.out.bel hb).c 1
  have UA : Hid (∀ wx, Below w1.heap.size w1 wx → wx.cell? ⟨pb, 0, none⟩ = some (.slice a i c0)) := fun wx hb => (HP.out wx (thn B1.out hb)).is.c 0
  have RK : Hid (∀ wx, Below w1.heap.size w1 wx → Row wx 62 4 (.slice a i c0) (L.map Gv.c)) := fun wx hb => (HP.out wx (thn B1.out hb)).row
  have D7 : Hid (Below w1.heap.size w1 w1.drew) := (Below.refl _ _).drew
  have FA : Hid (∀ wB wA v', Below w1.heap.size w1 wB → App wB wA 62 4 (.slice a i c0) v' (L.map Gv.c ++ [[.int .i64 tx, .int .i64 0, .slice none 0 0, .slice none 0 0]]) → wA.cell? ⟨pb, 0, none⟩ = some (.slice a i c0) ∧ wA.frozen? ⟨pb, 0, none⟩ = false ∧ wA.cell? ⟨b1, 1, none⟩ = some (.int .i64 tx)) := fun wB wA v' hb A => by
    have hp := HP.out wB (thn B1.out hb)
    have e1 : wA.heap[pb]? = wB.heap[pb]? := A.grow.block pb hp.is.lt (fun e => hp.row.ne (g := 0) hp.is (by decide) e.symm)
    have rb := R1.out.bel hb
    have e2 : wA.heap[b1]? = wB.heap[b1]? := A.grow.block b1 rb.lt (fun e => hp.row.ne (g := 0) rb (by decide) e.symm)
    exact ⟨(World.cell?_of_block e1).trans (hp.is.c 0), (World.frozen?_of_block e1).trans (hp.is.f 0), (rb.keep e2).c 1⟩
  have FM : Hid (∀ wB wA w5 aA cA, Below w1.heap.size w1 wB → App wB wA 62 4 (.slice a i c0) (.slice aA ((L.map Gv.c).length + 1) cA) (L.map Gv.c ++ [[.int .i64 tx, .int .i64 0, .slice none 0 0, .slice none 0 0]]) → w5 = wA.setCell ⟨pb, 0, none⟩ (.slice aA ((L.map Gv.c).length + 1) cA) →
      ∃ g c, aA = some ⟨g, 0, none⟩ ∧ Mid W w w5 pb g c i (L ++ [newG tx]) ∧ At w5 b1 33 (Rc.A ⟨kd, tx, pv, pg, ac, ky, ol, nw, nx, ep, nd⟩ I T)) := fun wB wA w5 aA cA hb A e5 => by
    subst e5
    have hp := HP.out w1 B1.out
    have hW1 : ∀ j, W j → j < w1.heap.size := fun j hj => Nat.lt_of_lt_of_le (HW.out j hj) B1.out.size
    have Q := hp.push hW1 (t := tx) hb A
    obtain ⟨g, c, ev, _⟩ := Q.some (by simp)
    have eA : aA = some ⟨g, 0, none⟩ := by injection ev
    have F1 := A.fr (W := W) (W' := fun j => W j ∨ (Value.slice aA ((L.map Gv.c).length + 1) cA).ownBlock = some j) (fun g e => hp.w2 g e) (fun j hj => hj)
    have F2 := (((Fr.of_below B1.out W).below hb).trans F1).set (Or.inl hp.w1) 0 (.slice aA ((L.map Gv.c).length + 1) cA)
    have hp2 := HP.out wB (thn B1.out hb)
    have rb := R1.out.bel hb
    have e2 : wA.heap[b1]? = wB.heap[b1]? := A.grow.block b1 rb.lt (fun e => hp2.row.ne (g := 0) rb (by decide) e.symm)
    have hne : b1 ≠ pb := fun e => by have := rb.tag (e ▸ hp2.is.blk); revert this; decide
    refine ⟨g, c, eA, ⟨⟨_, ?_, fun j hj => ?_, F2⟩, by simp [HL.out], fun j hj hne => ?_⟩, (rb.keep e2).keep (Below.heap_setCell wA _ _ b1 hne)⟩
    · have e3 : (L ++ [newG tx]).length = (L.map Gv.c).length + 1 := by simp
      rw [← ev]
      exact Q
    · have : j < wA.heap.size := by
        rcases hj with hj | hj
        · exact Nat.lt_of_lt_of_le (hW1 j hj) (Nat.le_trans hb.size A.grow.size)
        · exact A.row.lt hj
      simpa [World.setCell] using this
    · have : j < L.length := by have := HL.out; simp at hj; omega
      rw [List.getElem_append_left this]
      exact HZ.out j this
  clear CF HP HW N1 HZ
  go_wp2
  refine wp_region_held_drew (S := fun W : World => W.cell? ⟨b1, 1, none⟩ = some (.int .i64 tx)) (by kernel_rfl) (KS.out _ D7.out) (fun hHeld => ?_)
  refine wpAnyH_take (i := 0) (oi := _) (v := ?_) rfl (by kernel_rfl) (by kernel_rfl) (by kernel_rfl) (fun _ _ _ h => h) (Or.inl ⟨by rfl, ?_⟩) hHeld ?_
  rotate_left
  · (intro w hSw; (try dsimp only at hSw); go_simp; (try with_reducible rfl))
  try simp only [Act.put, List.setIfInBounds_toArray, List.set_cons_zero, List.set_cons_succ, List.getElem_toArray, List.getElem_cons_succ, List.getElem_cons_zero]
  refine wpAnyH_take (i := 1) (oi := _) (v := ?_) rfl (by kernel_rfl) (by kernel_rfl) (by kernel_rfl) (fun _ _ _ h => h) (Or.inl ⟨by rfl, ?_⟩) hHeld ?_
  rotate_left
  · (intro w hSw; (try dsimp only at hSw); go_simp; (try with_reducible rfl))
  try simp only [Act.put, List.setIfInBounds_toArray, List.set_cons_zero, List.set_cons_succ, List.getElem_toArray, List.getElem_cons_succ, List.getElem_cons_zero]
  refine wpAnyH_take (i := 2) (oi := _) (v := ?_) rfl (by kernel_rfl) (by kernel_rfl) (by kernel_rfl) (fun _ _ _ h => h) (Or.inl ⟨by rfl, ?_⟩) hHeld ?_
  rotate_left
  · (intro w hSw; (try dsimp only at hSw); go_simp; (try with_reducible rfl))
  try simp only [Act.put, List.setIfInBounds_toArray, List.set_cons_zero, List.set_cons_succ, List.getElem_toArray, List.getElem_cons_succ, List.getElem_cons_zero]
  refine wpAnyH_take (i := 3) (oi := _) (v := ?_) rfl (by kernel_rfl) (by kernel_rfl) (by kernel_rfl) (fun _ _ _ h => h) (Or.inl ⟨by rfl, ?_⟩) hHeld ?_
  rotate_left
  · (intro w hSw; (try dsimp only at hSw); go_simp; (try with_reducible rfl))
  try simp only [Act.put, List.setIfInBounds_toArray, List.set_cons_zero, List.set_cons_succ, List.getElem_toArray, List.getElem_cons_succ, List.getElem_cons_zero]
  refine wpAnyH_take (i := 5) (oi := _) (v := ?_) rfl (by kernel_rfl) (by kernel_rfl) (by kernel_rfl) (fun _ _ _ h => h) (Or.inl ⟨by rfl, ?_⟩) hHeld ?_
  rotate_left
  · (intro w hSw; (try dsimp only at hSw); go_simp; (try with_reducible rfl))
  try simp only [Act.put, List.setIfInBounds_toArray, List.set_cons_zero, List.set_cons_succ, List.getElem_toArray, List.getElem_cons_succ, List.getElem_cons_zero]
  refine wpAnyH_take (i := 6) (oi := _) (v := ?_) rfl (by kernel_rfl) (by kernel_rfl) (by kernel_rfl) (fun _ _ _ h => h) (Or.inl ⟨by rfl, ?_⟩) hHeld ?_
  rotate_left
  · (intro w hSw; (try dsimp only at hSw); go_simp; (try with_reducible rfl))
  try simp only [Act.put, List.setIfInBounds_toArray, List.set_cons_zero, List.set_cons_succ, List.getElem_toArray, List.getElem_cons_succ, List.getElem_cons_zero]
  refine wpAnyH_take (i := 7) (oi := _) (v := ?_) rfl (by kernel_rfl) (by kernel_rfl) (by kernel_rfl) (fun _ _ _ h => h) (Or.inl ⟨by rfl, ?_⟩) hHeld ?_
  rotate_left
  · (intro w hSw; (try dsimp only at hSw); go_simp; (try with_reducible rfl))
  try simp only [Act.put, List.setIfInBounds_toArray, List.set_cons_zero, List.set_cons_succ, List.getElem_toArray, List.getElem_cons_succ, List.getElem_cons_zero]
  refine wpAnyH_ready (rs := [4, 8]) (by kernel_rfl) (by simp) ?_
  refine AllReadyH.cons (o := _) rfl (fun K hK => ?_) (AllReadyH.cons (o := _) rfl (fun K hK => ?_) AllReadyH.nil)
  rw [if_pos (by rfl)]
  refine wp_load1 (v := .slice a i c0) _ (.tmp 58) rfl rfl (load_sg (UA.out _ D7.out)) ?_
  refine hK.out _ _ (KS.out _ D7.out) (fun hHeld => ?_)
  clear hK K
  try simp only [Act.put, List.setIfInBounds_toArray, List.set_cons_zero, List.set_cons_succ, List.getElem_toArray, List.getElem_cons_succ, List.getElem_cons_zero]
  refine wpAnyH_ready (rs := [8]) (by kernel_rfl) (by simp) ?_
  refine AllReadyH.cons (o := _) rfl (fun K hK => ?_) AllReadyH.nil
  rw [if_pos (by rfl)]
  refine wp_build1 _ (.tmp 62) rfl rfl (bG tx) ?_
  intro wB bB NB
  have DB : Hid (Below w1.heap.size w1 wB) := thn D7.out NB.bel
  refine hK.out _ _ (KS.out _ DB.out) (fun hHeld => ?_)
  clear hK K
  try simp only [Act.put, List.setIfInBounds_toArray, List.set_cons_zero, List.set_cons_succ, List.getElem_toArray, List.getElem_cons_succ, List.getElem_cons_zero]
  rotate_left
  rw [if_pos (by rfl)]
  refine wp_build1 _ (.tmp 62) rfl rfl (bG tx) ?_
  intro wB bB NB
  have DB : Hid (Below w1.heap.size w1 wB) := thn D7.out NB.bel
  refine hK.out _ _ (KS.out _ DB.out) (fun hHeld => ?_)
  clear hK K
  try simp only [Act.put, List.setIfInBounds_toArray, List.set_cons_zero, List.set_cons_succ, List.getElem_toArray, List.getElem_cons_succ, List.getElem_cons_zero]
  refine wpAnyH_ready (rs := [4]) (by kernel_rfl) (by simp) ?_
  refine AllReadyH.cons (o := _) rfl (fun K hK => ?_) AllReadyH.nil
  rw [if_pos (by rfl)]
  refine wp_load1 (v := .slice a i c0) _ (.tmp 58) rfl rfl (load_sg (UA.out _ DB.out)) ?_
  refine hK.out _ _ (KS.out _ DB.out) (fun hHeld => ?_)
  clear hK K
  try simp only [Act.put, List.setIfInBounds_toArray, List.set_cons_zero, List.set_cons_succ, List.getElem_toArray, List.getElem_cons_succ, List.getElem_cons_zero]
  all_goals
    refine wpAnyH_ready (rs := [9]) (by kernel_rfl) (by simp) ?_
    refine AllReadyH.cons (o := _) rfl (fun K hK => ?_) AllReadyH.nil
    refine step_push elG (L := L.map Gv.c) (v := .slice a i c0) (A := #[.int .i64 tx, .int .i64 0, .slice none 0 0, .slice none 0 0]) (c := 1) (b := bB) rfl (.tmp 59) (.tmp 63) rfl rfl (RK.out _ DB.out) rfl NB.is rfl oneG.out klen.out ?_
    intro aA cA wA AA
    obtain ⟨s0, sf, s1⟩ := FA.out _ _ _ DB.out AA
    refine hK.out _ _ s1 (fun hHeld => ?_)
    clear hK K
    try simp only [Act.put, List.setIfInBounds_toArray, List.set_cons_zero, List.set_cons_succ, List.getElem_toArray, List.getElem_cons_succ, List.getElem_cons_zero]
    refine wpAnyH_take (i := 10) (oi := _) (v := ?_) rfl (by kernel_rfl) (by kernel_rfl) (by kernel_rfl) (fun _ _ _ h => h) (Or.inl ⟨by rfl, ?_⟩) hHeld ?_
    rotate_left
    · (intro w hSw; (try dsimp only at hSw); go_simp; (try with_reducible rfl))
    try simp only [Act.put, List.setIfInBounds_toArray, List.set_cons_zero, List.set_cons_succ, List.getElem_toArray, List.getElem_cons_succ, List.getElem_cons_zero]
    refine wpAnyH_take (i := 11) (oi := _) (v := ?_) rfl (by kernel_rfl) (by kernel_rfl) (by kernel_rfl) (fun _ _ _ h => h) (Or.inl ⟨by rfl, ?_⟩) hHeld ?_
    rotate_left
    · (intro w hSw; (try dsimp only at hSw); go_simp; (try with_reducible rfl))
    try simp only [Act.put, List.setIfInBounds_toArray, List.set_cons_zero, List.set_cons_succ, List.getElem_toArray, List.getElem_cons_succ, List.getElem_cons_zero]
    refine wpAnyH_ready (rs := [12]) (by kernel_rfl) (by simp) ?_
    refine AllReadyH.cons (o := _) rfl (fun K hK => ?_) AllReadyH.nil
    rw [if_pos (by rfl)]
    refine wp_set1 (v := .slice aA ((L.map Gv.c).length + 1) cA) _ 26 (.tmp 66) (.tmp 64) rfl rfl rfl s0 sf rfl (by kernel_rfl) ?_
    intro w5 e5
    obtain ⟨g, c, eA, M5, r5⟩ := FM.out _ _ _ _ _ DB.out AA e5
    clear e5
    refine hK.out _ _ (r5.c 1) (fun hHeld => ?_)
    clear hK K
    try simp only [Act.put, List.setIfInBounds_toArray, List.set_cons_zero, List.set_cons_succ, List.getElem_toArray, List.getElem_cons_succ, List.getElem_cons_zero]
    refine wpAnyH_done (by kernel_rfl) ?_ _
    subst eA
    have HI0 : Hid (i < (L ++ [newG tx]).length) := (by rw [HL.out]; simp : i < (L ++ [newG tx]).length)
    obtain ⟨L1, eL1⟩ : ∃ L1, L1 = (L ++ [newG tx]).set i ⟨tx, lsn, [], [], .slice none 0 0, .slice none 0 0⟩ := ⟨_, rfl⟩
    have e0 : (L ++ [newG tx])[i]'HI0.out = newG tx := by simp [HL.out]
    have hln : L1.length = i + 1 := by rw [eL1]; simp [HL.out]
    have HQ5 : Hid (∀ y : Gv, (L1.set i y).map Gv.g = L.map Gv.g ++ [y.g]) := fun y => by
      rw [eL1, List.set_set, List.set_append_right _ _ (by rw [HL.out]; exact Nat.le_refl _), HL.out, Nat.sub_self]
      simp
    have hi1 : i < L1.length := by rw [hln]; omega
    have eg : L1[i] = ⟨tx, lsn, [], [], .slice none 0 0, .slice none 0 0⟩ := by subst eL1; exact List.getElem_set_self _
    have HX : Hid ((w5.cell? ⟨pb, 0, none⟩ = some (.slice (some ⟨g, 0, none⟩) (i + 1) c) ∧ w5.cell? ⟨g, i * 4 + 1, none⟩ = some (.int .i64 0) ∧ w5.frozen? ⟨g, i * 4 + 1, none⟩ = false) ∧ Mid W w (w5.setCell ⟨g, i * 4 + 1, none⟩ (.int .i64 lsn)) pb g c i L1 ∧ At (w5.setCell ⟨g, i * 4 + 1, none⟩ (.int .i64 lsn)) b1 33 (Rc.A ⟨kd, tx, pv, pg, ac, ky, ol, nw, nx, ep, nd⟩ I T)) := (by
      obtain ⟨p0, q1, _, _, qf⟩ := M5.cells HI0.out
      rw [e0] at q1
      have e3 : (L ++ [newG tx]).length = i + 1 := by simp [HL.out]
      rw [e3] at p0
      refine ⟨⟨p0, q1, qf _⟩, ?_, M5.off r5 (by decide) _ _⟩
      have := M5.last HI0.out lsn
      rw [e0] at this
      rw [eL1]
      exact this : (w5.cell? ⟨pb, 0, none⟩ = some (.slice (some ⟨g, 0, none⟩) (i + 1) c) ∧ w5.cell? ⟨g, i * 4 + 1, none⟩ = some (.int .i64 0) ∧ w5.frozen? ⟨g, i * 4 + 1, none⟩ = false) ∧ Mid W w (w5.setCell ⟨g, i * 4 + 1, none⟩ (.int .i64 lsn)) pb g c i L1 ∧ At (w5.setCell ⟨g, i * 4 + 1, none⟩ (.int .i64 lsn)) b1 33 (Rc.A ⟨kd, tx, pv, pg, ac, ky, ol, nw, nx, ep, nd⟩ I T))
    obtain ⟨⟨p0, q1, f1⟩, m1, o1⟩ := HX.out
    have d5 : w5.cell? ⟨b1, 0, none⟩ = some (.int .i64 kd) := r5.c 0
    obtain ⟨ny, hny⟩ : ∃ ny, ny = i + 1 := ⟨_, rfl⟩
    rw [← hny] at p0 hiI
    have HNY : Hid (ny = i + 1) := hny
    have HY : Hid (∀ h : i < L1.length, L1[i] = ⟨tx, lsn, [], [], .slice none 0 0, .slice none 0 0⟩) := fun _ => eg
    have HI1 : Hid (i < L1.length) := hi1
    have HE : Hid (Q = L1.map Gv.g) := (by
      have := HQ5.out ⟨tx, lsn, [], [], .slice none 0 0, .slice none 0 0⟩
      rw [← HQ.out, turn_none HT0.out]
      rw [eL1, List.set_set] at this
      rw [eL1]
      exact this.symm : Q = L1.map Gv.g)
    clear hny hi1 eg HX M5 r5 e0
    go_wp2_with (refine wpList_set1 (v := .int .i64 lsn) _ rfl 3 (.tmp 74) (.tmp 72) rfl rfl rfl q1 f1 rfl (by kernel_rfl) ?_; intro w4 e4; rw [← e4] at m1 o1; have M4 : Hid (Mid W w w4 pb g c i L1) := m1; have r4 : Hid (At w4 b1 33 (Rc.A ⟨kd, tx, pv, pg, ac, ky, ol, nw, nx, ep, nd⟩ I T)) := o1; clear m1 o1; have d0 : w4.cell? ⟨b1, 0, none⟩ = some (.int .i64 kd) := r4.out.c 0; clear e4)
    refine bodyPost_ret (results_none rfl _ _ _) rfl ?_
    rw [HE.out]
    exact ⟨rfl, M4.out.done HI1.out (by rw [HY.out HI1.out]; rfl)⟩
end
end Go.Proofs.Ytcpbekamabooaaa.Pa
