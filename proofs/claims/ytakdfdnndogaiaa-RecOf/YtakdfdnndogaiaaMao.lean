/- The document's Of, kinds apart. -/
import Derived.Test.YtakdfdnndogaiaaMan
import Derived.Deep.RegionHeld3
namespace Go.Proofs.Ytakdfdnndogaiaa
open Go.RowKit
set_option linter.unusedVariables false
set_option linter.unusedSimpArgs false
set_option maxRecDepth 100000

section
variable {w : World} {t : ByteArray} {K : Int} {q : Lf}
set_option maxHeartbeats 2000000 in
theorem rof_3_e (ht : t.size ≤ 1000000) (hK : nN (t, 0) 1 = K) (hq : sN (t, 0) 1 = q) (hk : K = 3) (he : ((rdChg K {kR K with tx := nN q 6, pv := nN (sN q 6) 6} (sN (sN q 6) 6)).2).2 ≠ 0) : Calls Try.prog 19 #[.string t] w fun e w' => (∃ v, e = .returned (.tuple #[v, .int .i64 ((rdChg K {kR K with tx := nN q 6, pv := nN (sN q 6) 6} (sN (sN q 6) 6)).2).2]) ∧ RecV w' v zM) ∧ Below w.heap.size w w' := by
  have CN : Hid (∀ w1, Calls Try.prog 32 #[.pointer (some ⟨w1.heap.size, 0, none⟩), .int .i64 1] (w1.alloc (.cells #[.string t, .int .i64 0, .int .i64 0] 63)) fun r w' => r = .returned (.int .i64 K) ∧ RfS w' w1.heap.size q ∧ Below w1.heap.size w1 w') := fun w1 => by rw [← hK, ← hq]; exact rd_start (by omega) w1
  have he' : (((rdChg K {kR K with tx := nN q 6, pv := nN (sN q 6) 6} (sN (sN q 6) 6)).2).2 != 0) = true := by simpa using he
  clear he
  generalize hQ9 : ((rdChg K {kR K with tx := nN q 6, pv := nN (sN q 6) 6} (sN (sN q 6) 6)).2).2 = E9 at *
  have hE9 : Hid (E9 = ((rdChg K {kR K with tx := nN q 6, pv := nN (sN q 6) 6} (sN (sN q 6) 6)).2).2) := hQ9.symm
  have e1 : (K == 1) = false := by rw [hk]; rfl
  have e2 : (K == 2) = false := by rw [hk]; rfl
  have e3 : (K == 3) = true := by rw [hk]; rfl
  clear hk hK hq
  go_enter Try.func19, Try.ntmps19
  go_wp2_with (first
    | (have := N1; refine wpList_new_rc _ rfl rfl ?_; intro w4 b5 N2)
    | (refine wpList_new_rc _ rfl rfl ?_; intro w1 b2 N1)
    | (have := H; go_at_call 32; refine (H.num _ (by omega) (by omega)).mono ?_; clear H this; rintro e w6 ⟨rfl, H⟩; have k2 := H.rd.c2; have k0 := H.c.c0; dsimp only [kR] at k0)
    | (go_at_call 32; refine (CN.out _).mono ?_; clear CN; rintro e w3 ⟨rfl, hr, hb⟩)
    | (refine wpList_at (Op.store 25 (.tmp 5) (.tmp 19)) rfl ?_; refine wpList_put_rc (s' := kR K) (I' := nilV) (T' := nilV) _ rfl (.tmp 5) (.tmp 19) rfl rfl rfl N2.rc rfl rfl ?_; intro w5 P5; have H := DoS.start N1 hr hb N2 P5; clear N1 hr hb N2 P5 this; generalize w1.heap.size = b4 at *; have k0 := H.c.c0; dsimp only [kR] at k0; have k4 := H.c.c4; dsimp only [kR] at k4; have k2 := H.rd.c2)
    | (refine wpList_at (Op.store 3 (.tmp 56) (.tmp 55)) rfl ?_; refine wpList_fput (s' := {kR K with tx := nN q 6}) (I' := nilV) (T' := nilV) _ rfl 3 (.tmp 56) (.tmp 55) rfl rfl rfl H.c (by omega) rfl (by kernel_rfl) rfl ?_; intro w5 P5; have H1 := H.put P5; clear H P5; have H := H1; clear H1; have k0 := H.c.c0; dsimp only [kR] at k0; have k4 := H.c.c4; dsimp only [kR] at k4; have k2 := H.rd.c2)
    | (refine wpList_at (Op.store 3 (.tmp 59) (.tmp 58)) rfl ?_; refine wpList_fput (s' := {kR K with tx := nN q 6, pv := nN (sN q 6) 6}) (I' := nilV) (T' := nilV) _ rfl 3 (.tmp 59) (.tmp 58) rfl rfl rfl H.c (by omega) rfl (by kernel_rfl) rfl ?_; intro w5 P5; have H1 := H.put P5; clear H P5; have H := H1; clear H1; have k0 := H.c.c0; dsimp only [kR] at k0; have k4 := H.c.c4; dsimp only [kR] at k4; have k2 := H.rd.c2)
    | (go_at_call 34; refine (H.change rfl rfl _).mono ?_; clear H; rintro e w7 ⟨rfl, H⟩; have k2 := H.rd.c2)
    | (refine wpList_at (Op.store 25 (.tmp 5) (.tmp 64)) rfl ?_; refine wpList_put_rc (s' := (rdChg K {kR K with tx := nN q 6, pv := nN (sN q 6) 6} (sN (sN q 6) 6)).1) (I' := nilV) (T' := nilV) _ rfl (.tmp 5) (.tmp 64) rfl rfl rfl H.c rfl rfl ?_; intro w5 P5; have H1 := H.put P5; clear H P5; have H := H1; clear H1; have k2 := H.rd.c2)
    | (refine wpList_load_rc _ rfl (.tmp 5) rfl rfl H.c ?_))
  rw [hQ9] at k2
  clear hQ9
  have H0 := H.below ((Below.refl _ _).drew)
  clear H
  have H := H0
  clear H0
  refine wp_region_held_drew (S := fun W : World => W.cell? ⟨b4, 2, none⟩ = some (.int .i64 E9)) (by kernel_rfl) (by rw [hE9.out]; exact H.rd.c2) (fun hHeld => ?_)
  refine wpAnyH_take (i := 0) (oi := _) (v := ?_) rfl (by kernel_rfl) (by kernel_rfl) (by kernel_rfl) (fun _ _ _ h => h) (Or.inl ⟨by rfl, ?_⟩) hHeld ?_
  rotate_left
  · (intro w hSw; (try dsimp only at hSw); go_simp; (try with_reducible rfl))
  try simp only [Act.put, List.setIfInBounds_toArray, List.set_cons_zero, List.set_cons_succ, List.getElem_toArray, List.getElem_cons_succ, List.getElem_cons_zero]
  refine wpAnyH_take (i := 1) (oi := _) (v := ?_) rfl (by kernel_rfl) (by kernel_rfl) (by kernel_rfl) (fun _ _ _ h => h) (Or.inl ⟨by rfl, ?_⟩) hHeld ?_
  rotate_left
  · (intro w hSw; (try dsimp only at hSw); go_simp; (try with_reducible rfl))
  try simp only [Act.put, List.setIfInBounds_toArray, List.set_cons_zero, List.set_cons_succ, List.getElem_toArray, List.getElem_cons_succ, List.getElem_cons_zero]
  refine wpAnyH_take (i := 2) (oi := _) (v := ?_) rfl (by kernel_rfl) (by kernel_rfl) (by kernel_rfl) (fun _ _ _ h => h) (Or.inl ⟨by rfl, ?_⟩) hHeld ?_
  rotate_left
  · (intro w hSw; (try dsimp only at hSw); go_simp; (try with_reducible rfl))
  try simp only [Act.put, List.setIfInBounds_toArray, List.set_cons_zero, List.set_cons_succ, List.getElem_toArray, List.getElem_cons_succ, List.getElem_cons_zero]
  refine wpAnyH_take (i := 3) (oi := _) (v := ?_) rfl (by kernel_rfl) (by kernel_rfl) (by kernel_rfl) (fun _ _ _ h => h) (Or.inl ⟨by rfl, ?_⟩) hHeld ?_
  rotate_left
  · (intro w hSw; (try dsimp only at hSw); go_simp; (try with_reducible rfl))
  try simp only [Act.put, List.setIfInBounds_toArray, List.set_cons_zero, List.set_cons_succ, List.getElem_toArray, List.getElem_cons_succ, List.getElem_cons_zero]
  refine wpAnyH_take (i := 4) (oi := _) (v := ?_) rfl (by kernel_rfl) (by kernel_rfl) (by kernel_rfl) (fun _ _ _ h => h) (Or.inl ⟨by rfl, ?_⟩) hHeld ?_
  rotate_left
  · (intro w hSw; (try dsimp only at hSw); go_simp; (try with_reducible rfl))
  try simp only [Act.put, List.setIfInBounds_toArray, List.set_cons_zero, List.set_cons_succ, List.getElem_toArray, List.getElem_cons_succ, List.getElem_cons_zero]
  refine wpAnyH_ready (rs := [5]) (by kernel_rfl) (by simp) ?_
  refine AllReadyH.cons (o := _) rfl (fun K hK => ?_) AllReadyH.nil
  rw [if_pos (by rfl)]
  refine wp_put_rc (s' := zS) (I' := nilV) (T' := nilV) _ (.tmp 2) (.tmp 133) rfl rfl rfl H.r rfl rfl ?_
  intro w8 P8
  refine hK.out _ _ (by rw [hE9.out]; exact (H.rd.off P8.off (fun e => H.n2 e.symm)).c2) (fun hHeld => ?_)
  clear hK K
  try simp only [Act.put, List.setIfInBounds_toArray, List.set_cons_zero, List.set_cons_succ, List.getElem_toArray, List.getElem_cons_succ, List.getElem_cons_zero]
  refine wpAnyH_take (i := 6) (oi := _) (v := ?_) rfl (by kernel_rfl) (by kernel_rfl) (by kernel_rfl) (fun _ _ _ h => h) (Or.inl ⟨by rfl, ?_⟩) hHeld ?_
  rotate_left
  · (intro w hSw; (try dsimp only at hSw); go_simp; (try with_reducible rfl))
  try simp only [Act.put, List.setIfInBounds_toArray, List.set_cons_zero, List.set_cons_succ, List.getElem_toArray, List.getElem_cons_succ, List.getElem_cons_zero]
  refine wpAnyH_done (by kernel_rfl) ?_ _
  go_wp2
  refine bodyPost_ret (results_rc2 rfl _ _ rfl P8.rc) rfl ?_
  exact ⟨⟨_, rfl, ⟨nilV, nilV, rfl, SlI.nil _, SlT.nil _⟩⟩, H.bel.trans (P8.below H.l2 H.bel.size)⟩
set_option maxHeartbeats 2000000 in
theorem rof_3_g (ht : t.size ≤ 1000000) (hK : nN (t, 0) 1 = K) (hq : sN (t, 0) 1 = q) (hs : Small ⟨(rdChg K {kR K with tx := nN q 6, pv := nN (sN q 6) 6} (sN (sN q 6) 6)).1, [], []⟩) (hk : K = 3) (he : ((rdChg K {kR K with tx := nN q 6, pv := nN (sN q 6) 6} (sN (sN q 6) 6)).2).2 = 0) (hE : bodyM (cleanM ⟨(rdChg K {kR K with tx := nN q 6, pv := nN (sN q 6) 6} (sN (sN q 6) 6)).1, [], []⟩) = (t, 0)) : Calls Try.prog 19 #[.string t] w fun e w' => (∃ v, e = .returned (.tuple #[v, .int .i64 0]) ∧ RecV w' v ⟨(rdChg K {kR K with tx := nN q 6, pv := nN (sN q 6) 6} (sN (sN q 6) 6)).1, [], []⟩) ∧ Below w.heap.size w w' := by
  have CN : Hid (∀ w1, Calls Try.prog 32 #[.pointer (some ⟨w1.heap.size, 0, none⟩), .int .i64 1] (w1.alloc (.cells #[.string t, .int .i64 0, .int .i64 0] 63)) fun r w' => r = .returned (.int .i64 K) ∧ RfS w' w1.heap.size q ∧ Below w1.heap.size w1 w') := fun w1 => by rw [← hK, ← hq]; exact rd_start (by omega) w1
  have CB : Hid (∀ wx v, RecV wx v ⟨(rdChg K {kR K with tx := nN q 6, pv := nN (sN q 6) 6} (sN (sN q 6) 6)).1, [], []⟩ → Calls Try.prog 11 #[v] wx fun r w' => r = .returned (.tuple #[.string (bodyM (cleanM ⟨(rdChg K {kR K with tx := nN q 6, pv := nN (sN q 6) 6} (sN (sN q 6) 6)).1, [], []⟩)).1, .int .i64 (bodyM (cleanM ⟨(rdChg K {kR K with tx := nN q 6, pv := nN (sN q 6) 6} (sN (sN q 6) 6)).1, [], []⟩)).2]) ∧ Below wx.heap.size wx w') := fun wx v h => rbody_any h hs
  rw [hE] at CB
  dsimp only at CB
  have tt : (t.toList == t.toList) = true := by simp
  clear hE
  have e1 : (K == 1) = false := by rw [hk]; rfl
  have e2 : (K == 2) = false := by rw [hk]; rfl
  have e3 : (K == 3) = true := by rw [hk]; rfl
  clear hk hs hK hq
  go_enter Try.func19, Try.ntmps19
  go_wp2_with (first
    | (have := N1; refine wpList_new_rc _ rfl rfl ?_; intro w4 b5 N2)
    | (refine wpList_new_rc _ rfl rfl ?_; intro w1 b2 N1)
    | (have := H; go_at_call 32; refine (H.num _ (by omega) (by omega)).mono ?_; clear H this; rintro e w6 ⟨rfl, H⟩; have k2 := H.rd.c2; have k0 := H.c.c0; dsimp only [kR] at k0)
    | (go_at_call 32; refine (CN.out _).mono ?_; clear CN; rintro e w3 ⟨rfl, hr, hb⟩)
    | (refine wpList_at (Op.store 25 (.tmp 5) (.tmp 19)) rfl ?_; refine wpList_put_rc (s' := kR K) (I' := nilV) (T' := nilV) _ rfl (.tmp 5) (.tmp 19) rfl rfl rfl N2.rc rfl rfl ?_; intro w5 P5; have H := DoS.start N1 hr hb N2 P5; clear N1 hr hb N2 P5 this; generalize w1.heap.size = b4 at *; have k0 := H.c.c0; dsimp only [kR] at k0; have k4 := H.c.c4; dsimp only [kR] at k4; have k2 := H.rd.c2)
    | (refine wpList_at (Op.store 3 (.tmp 56) (.tmp 55)) rfl ?_; refine wpList_fput (s' := {kR K with tx := nN q 6}) (I' := nilV) (T' := nilV) _ rfl 3 (.tmp 56) (.tmp 55) rfl rfl rfl H.c (by omega) rfl (by kernel_rfl) rfl ?_; intro w5 P5; have H1 := H.put P5; clear H P5; have H := H1; clear H1; have k0 := H.c.c0; dsimp only [kR] at k0; have k4 := H.c.c4; dsimp only [kR] at k4; have k2 := H.rd.c2)
    | (refine wpList_at (Op.store 3 (.tmp 59) (.tmp 58)) rfl ?_; refine wpList_fput (s' := {kR K with tx := nN q 6, pv := nN (sN q 6) 6}) (I' := nilV) (T' := nilV) _ rfl 3 (.tmp 59) (.tmp 58) rfl rfl rfl H.c (by omega) rfl (by kernel_rfl) rfl ?_; intro w5 P5; have H1 := H.put P5; clear H P5; have H := H1; clear H1; have k0 := H.c.c0; dsimp only [kR] at k0; have k4 := H.c.c4; dsimp only [kR] at k4; have k2 := H.rd.c2)
    | (go_at_call 34; refine (H.change rfl rfl _).mono ?_; clear H; rintro e w7 ⟨rfl, H⟩; have k2 := H.rd.c2)
    | (refine wpList_at (Op.store 25 (.tmp 5) (.tmp 64)) rfl ?_; refine wpList_put_rc (s' := (rdChg K {kR K with tx := nN q 6, pv := nN (sN q 6) 6} (sN (sN q 6) 6)).1) (I' := nilV) (T' := nilV) _ rfl (.tmp 5) (.tmp 64) rfl rfl rfl H.c rfl rfl ?_; intro w5 P5; have H1 := H.put P5; clear H P5; have H := H1; clear H1; have k2 := H.rd.c2)
    | (refine wpList_load_rc _ rfl (.tmp 5) rfl rfl H.c ?_)
    | (go_at_call 11; refine (CB.out _ _ ⟨_, _, rfl, SlI.nil _, SlT.nil _⟩).mono ?_; clear CB; rintro e w8 ⟨rfl, b8⟩; have H1 := H.below b8; clear H; have H := H1; clear H1)
    | (refine wpList_at (Op.store 25 (.tmp 2) (.tmp 151)) rfl ?_; refine wpList_put_rc (s' := (rdChg K {kR K with tx := nN q 6, pv := nN (sN q 6) 6} (sN (sN q 6) 6)).1) (I' := nilV) (T' := nilV) _ rfl (.tmp 2) (.tmp 151) rfl rfl rfl H.r rfl rfl ?_; intro w9 P9))
  refine bodyPost_ret (results_rc2 rfl _ _ rfl P9.rc) rfl ?_
  exact ⟨⟨_, rfl, ⟨nilV, nilV, rfl, SlI.nil _, SlT.nil _⟩⟩, H.bel.trans (P9.below H.l2 H.bel.size)⟩
set_option maxHeartbeats 2000000 in
theorem rof_3_b (ht : t.size ≤ 1000000) (hK : nN (t, 0) 1 = K) (hq : sN (t, 0) 1 = q) (hs : Small ⟨(rdChg K {kR K with tx := nN q 6, pv := nN (sN q 6) 6} (sN (sN q 6) 6)).1, [], []⟩) (hk : K = 3) (he : ((rdChg K {kR K with tx := nN q 6, pv := nN (sN q 6) 6} (sN (sN q 6) 6)).2).2 = 0) (hE : (bodyM (cleanM ⟨(rdChg K {kR K with tx := nN q 6, pv := nN (sN q 6) 6} (sN (sN q 6) 6)).1, [], []⟩)).2 ≠ 0) : Calls Try.prog 19 #[.string t] w fun e w' => (∃ v, e = .returned (.tuple #[v, .int .i64 4]) ∧ RecV w' v zM) ∧ Below w.heap.size w w' := by
  have CN : Hid (∀ w1, Calls Try.prog 32 #[.pointer (some ⟨w1.heap.size, 0, none⟩), .int .i64 1] (w1.alloc (.cells #[.string t, .int .i64 0, .int .i64 0] 63)) fun r w' => r = .returned (.int .i64 K) ∧ RfS w' w1.heap.size q ∧ Below w1.heap.size w1 w') := fun w1 => by rw [← hK, ← hq]; exact rd_start (by omega) w1
  have CB : Hid (∀ wx v, RecV wx v ⟨(rdChg K {kR K with tx := nN q 6, pv := nN (sN q 6) 6} (sN (sN q 6) 6)).1, [], []⟩ → Calls Try.prog 11 #[v] wx fun r w' => r = .returned (.tuple #[.string (bodyM (cleanM ⟨(rdChg K {kR K with tx := nN q 6, pv := nN (sN q 6) 6} (sN (sN q 6) 6)).1, [], []⟩)).1, .int .i64 (bodyM (cleanM ⟨(rdChg K {kR K with tx := nN q 6, pv := nN (sN q 6) 6} (sN (sN q 6) 6)).1, [], []⟩)).2]) ∧ Below wx.heap.size wx w') := fun wx v h => rbody_any h hs
  generalize (bodyM (cleanM ⟨(rdChg K {kR K with tx := nN q 6, pv := nN (sN q 6) 6} (sN (sN q 6) 6)).1, [], []⟩)).1 = Z at *
  generalize (bodyM (cleanM ⟨(rdChg K {kR K with tx := nN q 6, pv := nN (sN q 6) 6} (sN (sN q 6) 6)).1, [], []⟩)).2 = E at *
  have hE' : (E != 0) = true := by simpa using hE
  clear hE
  have e1 : (K == 1) = false := by rw [hk]; rfl
  have e2 : (K == 2) = false := by rw [hk]; rfl
  have e3 : (K == 3) = true := by rw [hk]; rfl
  clear hk hs hK hq
  go_enter Try.func19, Try.ntmps19
  go_wp2_with (first
    | (have := N1; refine wpList_new_rc _ rfl rfl ?_; intro w4 b5 N2)
    | (refine wpList_new_rc _ rfl rfl ?_; intro w1 b2 N1)
    | (have := H; go_at_call 32; refine (H.num _ (by omega) (by omega)).mono ?_; clear H this; rintro e w6 ⟨rfl, H⟩; have k2 := H.rd.c2; have k0 := H.c.c0; dsimp only [kR] at k0)
    | (go_at_call 32; refine (CN.out _).mono ?_; clear CN; rintro e w3 ⟨rfl, hr, hb⟩)
    | (refine wpList_at (Op.store 25 (.tmp 5) (.tmp 19)) rfl ?_; refine wpList_put_rc (s' := kR K) (I' := nilV) (T' := nilV) _ rfl (.tmp 5) (.tmp 19) rfl rfl rfl N2.rc rfl rfl ?_; intro w5 P5; have H := DoS.start N1 hr hb N2 P5; clear N1 hr hb N2 P5 this; generalize w1.heap.size = b4 at *; have k0 := H.c.c0; dsimp only [kR] at k0; have k4 := H.c.c4; dsimp only [kR] at k4; have k2 := H.rd.c2)
    | (refine wpList_at (Op.store 3 (.tmp 56) (.tmp 55)) rfl ?_; refine wpList_fput (s' := {kR K with tx := nN q 6}) (I' := nilV) (T' := nilV) _ rfl 3 (.tmp 56) (.tmp 55) rfl rfl rfl H.c (by omega) rfl (by kernel_rfl) rfl ?_; intro w5 P5; have H1 := H.put P5; clear H P5; have H := H1; clear H1; have k0 := H.c.c0; dsimp only [kR] at k0; have k4 := H.c.c4; dsimp only [kR] at k4; have k2 := H.rd.c2)
    | (refine wpList_at (Op.store 3 (.tmp 59) (.tmp 58)) rfl ?_; refine wpList_fput (s' := {kR K with tx := nN q 6, pv := nN (sN q 6) 6}) (I' := nilV) (T' := nilV) _ rfl 3 (.tmp 59) (.tmp 58) rfl rfl rfl H.c (by omega) rfl (by kernel_rfl) rfl ?_; intro w5 P5; have H1 := H.put P5; clear H P5; have H := H1; clear H1; have k0 := H.c.c0; dsimp only [kR] at k0; have k4 := H.c.c4; dsimp only [kR] at k4; have k2 := H.rd.c2)
    | (go_at_call 34; refine (H.change rfl rfl _).mono ?_; clear H; rintro e w7 ⟨rfl, H⟩; have k2 := H.rd.c2)
    | (refine wpList_at (Op.store 25 (.tmp 5) (.tmp 64)) rfl ?_; refine wpList_put_rc (s' := (rdChg K {kR K with tx := nN q 6, pv := nN (sN q 6) 6} (sN (sN q 6) 6)).1) (I' := nilV) (T' := nilV) _ rfl (.tmp 5) (.tmp 64) rfl rfl rfl H.c rfl rfl ?_; intro w5 P5; have H1 := H.put P5; clear H P5; have H := H1; clear H1; have k2 := H.rd.c2)
    | (refine wpList_load_rc _ rfl (.tmp 5) rfl rfl H.c ?_)
    | (go_at_call 11; refine (CB.out _ _ ⟨_, _, rfl, SlI.nil _, SlT.nil _⟩).mono ?_; clear CB; rintro e w8 ⟨rfl, b8⟩; have H1 := H.below b8; clear H; have H := H1; clear H1)
    | (refine wpList_at (Op.store 25 (.tmp 2) (.tmp 150)) rfl ?_; refine wpList_put_rc (s' := zS) (I' := nilV) (T' := nilV) _ rfl (.tmp 2) (.tmp 150) rfl rfl rfl H.r rfl rfl ?_; intro w9 P9))
  refine bodyPost_ret (results_rc2 rfl _ _ rfl P9.rc) rfl ?_
  exact ⟨⟨_, rfl, ⟨nilV, nilV, rfl, SlI.nil _, SlT.nil _⟩⟩, H.bel.trans (P9.below H.l2 H.bel.size)⟩
set_option maxHeartbeats 2000000 in
theorem rof_3_z (ht : t.size ≤ 1000000) (hK : nN (t, 0) 1 = K) (hq : sN (t, 0) 1 = q) (hs : Small ⟨(rdChg K {kR K with tx := nN q 6, pv := nN (sN q 6) 6} (sN (sN q 6) 6)).1, [], []⟩) (hk : K = 3) (he : ((rdChg K {kR K with tx := nN q 6, pv := nN (sN q 6) 6} (sN (sN q 6) 6)).2).2 = 0) (hE : (bodyM (cleanM ⟨(rdChg K {kR K with tx := nN q 6, pv := nN (sN q 6) 6} (sN (sN q 6) 6)).1, [], []⟩)).2 = 0) (hZ : (bodyM (cleanM ⟨(rdChg K {kR K with tx := nN q 6, pv := nN (sN q 6) 6} (sN (sN q 6) 6)).1, [], []⟩)).1 ≠ t) : Calls Try.prog 19 #[.string t] w fun e w' => (∃ v, e = .returned (.tuple #[v, .int .i64 4]) ∧ RecV w' v zM) ∧ Below w.heap.size w w' := by
  have CN : Hid (∀ w1, Calls Try.prog 32 #[.pointer (some ⟨w1.heap.size, 0, none⟩), .int .i64 1] (w1.alloc (.cells #[.string t, .int .i64 0, .int .i64 0] 63)) fun r w' => r = .returned (.int .i64 K) ∧ RfS w' w1.heap.size q ∧ Below w1.heap.size w1 w') := fun w1 => by rw [← hK, ← hq]; exact rd_start (by omega) w1
  have CB : Hid (∀ wx v, RecV wx v ⟨(rdChg K {kR K with tx := nN q 6, pv := nN (sN q 6) 6} (sN (sN q 6) 6)).1, [], []⟩ → Calls Try.prog 11 #[v] wx fun r w' => r = .returned (.tuple #[.string (bodyM (cleanM ⟨(rdChg K {kR K with tx := nN q 6, pv := nN (sN q 6) 6} (sN (sN q 6) 6)).1, [], []⟩)).1, .int .i64 (bodyM (cleanM ⟨(rdChg K {kR K with tx := nN q 6, pv := nN (sN q 6) 6} (sN (sN q 6) 6)).1, [], []⟩)).2]) ∧ Below wx.heap.size wx w') := fun wx v h => rbody_any h hs
  rw [hE] at CB
  generalize (bodyM (cleanM ⟨(rdChg K {kR K with tx := nN q 6, pv := nN (sN q 6) 6} (sN (sN q 6) 6)).1, [], []⟩)).1 = Z at *
  have hZ' : (Z.toList == t.toList) = false := toList_ne hZ
  clear hZ
  clear hE
  have e1 : (K == 1) = false := by rw [hk]; rfl
  have e2 : (K == 2) = false := by rw [hk]; rfl
  have e3 : (K == 3) = true := by rw [hk]; rfl
  clear hk hs hK hq
  go_enter Try.func19, Try.ntmps19
  go_wp2_with (first
    | (have := N1; refine wpList_new_rc _ rfl rfl ?_; intro w4 b5 N2)
    | (refine wpList_new_rc _ rfl rfl ?_; intro w1 b2 N1)
    | (have := H; go_at_call 32; refine (H.num _ (by omega) (by omega)).mono ?_; clear H this; rintro e w6 ⟨rfl, H⟩; have k2 := H.rd.c2; have k0 := H.c.c0; dsimp only [kR] at k0)
    | (go_at_call 32; refine (CN.out _).mono ?_; clear CN; rintro e w3 ⟨rfl, hr, hb⟩)
    | (refine wpList_at (Op.store 25 (.tmp 5) (.tmp 19)) rfl ?_; refine wpList_put_rc (s' := kR K) (I' := nilV) (T' := nilV) _ rfl (.tmp 5) (.tmp 19) rfl rfl rfl N2.rc rfl rfl ?_; intro w5 P5; have H := DoS.start N1 hr hb N2 P5; clear N1 hr hb N2 P5 this; generalize w1.heap.size = b4 at *; have k0 := H.c.c0; dsimp only [kR] at k0; have k4 := H.c.c4; dsimp only [kR] at k4; have k2 := H.rd.c2)
    | (refine wpList_at (Op.store 3 (.tmp 56) (.tmp 55)) rfl ?_; refine wpList_fput (s' := {kR K with tx := nN q 6}) (I' := nilV) (T' := nilV) _ rfl 3 (.tmp 56) (.tmp 55) rfl rfl rfl H.c (by omega) rfl (by kernel_rfl) rfl ?_; intro w5 P5; have H1 := H.put P5; clear H P5; have H := H1; clear H1; have k0 := H.c.c0; dsimp only [kR] at k0; have k4 := H.c.c4; dsimp only [kR] at k4; have k2 := H.rd.c2)
    | (refine wpList_at (Op.store 3 (.tmp 59) (.tmp 58)) rfl ?_; refine wpList_fput (s' := {kR K with tx := nN q 6, pv := nN (sN q 6) 6}) (I' := nilV) (T' := nilV) _ rfl 3 (.tmp 59) (.tmp 58) rfl rfl rfl H.c (by omega) rfl (by kernel_rfl) rfl ?_; intro w5 P5; have H1 := H.put P5; clear H P5; have H := H1; clear H1; have k0 := H.c.c0; dsimp only [kR] at k0; have k4 := H.c.c4; dsimp only [kR] at k4; have k2 := H.rd.c2)
    | (go_at_call 34; refine (H.change rfl rfl _).mono ?_; clear H; rintro e w7 ⟨rfl, H⟩; have k2 := H.rd.c2)
    | (refine wpList_at (Op.store 25 (.tmp 5) (.tmp 64)) rfl ?_; refine wpList_put_rc (s' := (rdChg K {kR K with tx := nN q 6, pv := nN (sN q 6) 6} (sN (sN q 6) 6)).1) (I' := nilV) (T' := nilV) _ rfl (.tmp 5) (.tmp 64) rfl rfl rfl H.c rfl rfl ?_; intro w5 P5; have H1 := H.put P5; clear H P5; have H := H1; clear H1; have k2 := H.rd.c2)
    | (refine wpList_load_rc _ rfl (.tmp 5) rfl rfl H.c ?_)
    | (go_at_call 11; refine (CB.out _ _ ⟨_, _, rfl, SlI.nil _, SlT.nil _⟩).mono ?_; clear CB; rintro e w8 ⟨rfl, b8⟩; have H1 := H.below b8; clear H; have H := H1; clear H1)
    | (refine wpList_at (Op.store 25 (.tmp 2) (.tmp 150)) rfl ?_; refine wpList_put_rc (s' := zS) (I' := nilV) (T' := nilV) _ rfl (.tmp 2) (.tmp 150) rfl rfl rfl H.r rfl rfl ?_; intro w9 P9))
  refine bodyPost_ret (results_rc2 rfl _ _ rfl P9.rc) rfl ?_
  exact ⟨⟨_, rfl, ⟨nilV, nilV, rfl, SlI.nil _, SlT.nil _⟩⟩, H.bel.trans (P9.below H.l2 H.bel.size)⟩
set_option maxHeartbeats 2000000 in
theorem rof_4_e (ht : t.size ≤ 1000000) (hK : nN (t, 0) 1 = K) (hq : sN (t, 0) 1 = q) (hk : K = 4) (he : ((rdChg K {kR K with tx := nN q 6, pv := nN (sN q 6) 6} (sN (sN q 6) 6)).2).2 ≠ 0) : Calls Try.prog 19 #[.string t] w fun e w' => (∃ v, e = .returned (.tuple #[v, .int .i64 ((rdChg K {kR K with tx := nN q 6, pv := nN (sN q 6) 6} (sN (sN q 6) 6)).2).2]) ∧ RecV w' v zM) ∧ Below w.heap.size w w' := by
  have CN : Hid (∀ w1, Calls Try.prog 32 #[.pointer (some ⟨w1.heap.size, 0, none⟩), .int .i64 1] (w1.alloc (.cells #[.string t, .int .i64 0, .int .i64 0] 63)) fun r w' => r = .returned (.int .i64 K) ∧ RfS w' w1.heap.size q ∧ Below w1.heap.size w1 w') := fun w1 => by rw [← hK, ← hq]; exact rd_start (by omega) w1
  have he' : (((rdChg K {kR K with tx := nN q 6, pv := nN (sN q 6) 6} (sN (sN q 6) 6)).2).2 != 0) = true := by simpa using he
  clear he
  generalize hQ9 : ((rdChg K {kR K with tx := nN q 6, pv := nN (sN q 6) 6} (sN (sN q 6) 6)).2).2 = E9 at *
  have hE9 : Hid (E9 = ((rdChg K {kR K with tx := nN q 6, pv := nN (sN q 6) 6} (sN (sN q 6) 6)).2).2) := hQ9.symm
  have e1 : (K == 1) = false := by rw [hk]; rfl
  have e2 : (K == 2) = false := by rw [hk]; rfl
  have e3 : (K == 3) = false := by rw [hk]; rfl
  have e4 : (K == 4) = true := by rw [hk]; rfl
  clear hk hK hq
  go_enter Try.func19, Try.ntmps19
  go_wp2_with (first
    | (have := N1; refine wpList_new_rc _ rfl rfl ?_; intro w4 b5 N2)
    | (refine wpList_new_rc _ rfl rfl ?_; intro w1 b2 N1)
    | (have := H; go_at_call 32; refine (H.num _ (by omega) (by omega)).mono ?_; clear H this; rintro e w6 ⟨rfl, H⟩; have k2 := H.rd.c2; have k0 := H.c.c0; dsimp only [kR] at k0)
    | (go_at_call 32; refine (CN.out _).mono ?_; clear CN; rintro e w3 ⟨rfl, hr, hb⟩)
    | (refine wpList_at (Op.store 25 (.tmp 5) (.tmp 19)) rfl ?_; refine wpList_put_rc (s' := kR K) (I' := nilV) (T' := nilV) _ rfl (.tmp 5) (.tmp 19) rfl rfl rfl N2.rc rfl rfl ?_; intro w5 P5; have H := DoS.start N1 hr hb N2 P5; clear N1 hr hb N2 P5 this; generalize w1.heap.size = b4 at *; have k0 := H.c.c0; dsimp only [kR] at k0; have k4 := H.c.c4; dsimp only [kR] at k4; have k2 := H.rd.c2)
    | (refine wpList_at (Op.store 3 (.tmp 56) (.tmp 55)) rfl ?_; refine wpList_fput (s' := {kR K with tx := nN q 6}) (I' := nilV) (T' := nilV) _ rfl 3 (.tmp 56) (.tmp 55) rfl rfl rfl H.c (by omega) rfl (by kernel_rfl) rfl ?_; intro w5 P5; have H1 := H.put P5; clear H P5; have H := H1; clear H1; have k0 := H.c.c0; dsimp only [kR] at k0; have k4 := H.c.c4; dsimp only [kR] at k4; have k2 := H.rd.c2)
    | (refine wpList_at (Op.store 3 (.tmp 59) (.tmp 58)) rfl ?_; refine wpList_fput (s' := {kR K with tx := nN q 6, pv := nN (sN q 6) 6}) (I' := nilV) (T' := nilV) _ rfl 3 (.tmp 59) (.tmp 58) rfl rfl rfl H.c (by omega) rfl (by kernel_rfl) rfl ?_; intro w5 P5; have H1 := H.put P5; clear H P5; have H := H1; clear H1; have k0 := H.c.c0; dsimp only [kR] at k0; have k4 := H.c.c4; dsimp only [kR] at k4; have k2 := H.rd.c2)
    | (go_at_call 34; refine (H.change rfl rfl _).mono ?_; clear H; rintro e w7 ⟨rfl, H⟩; have k2 := H.rd.c2)
    | (refine wpList_at (Op.store 25 (.tmp 5) (.tmp 64)) rfl ?_; refine wpList_put_rc (s' := (rdChg K {kR K with tx := nN q 6, pv := nN (sN q 6) 6} (sN (sN q 6) 6)).1) (I' := nilV) (T' := nilV) _ rfl (.tmp 5) (.tmp 64) rfl rfl rfl H.c rfl rfl ?_; intro w5 P5; have H1 := H.put P5; clear H P5; have H := H1; clear H1; have k2 := H.rd.c2)
    | (refine wpList_load_rc _ rfl (.tmp 5) rfl rfl H.c ?_))
  rw [hQ9] at k2
  clear hQ9
  have H0 := H.below ((Below.refl _ _).drew)
  clear H
  have H := H0
  clear H0
  refine wp_region_held_drew (S := fun W : World => W.cell? ⟨b4, 2, none⟩ = some (.int .i64 E9)) (by kernel_rfl) (by rw [hE9.out]; exact H.rd.c2) (fun hHeld => ?_)
  refine wpAnyH_take (i := 0) (oi := _) (v := ?_) rfl (by kernel_rfl) (by kernel_rfl) (by kernel_rfl) (fun _ _ _ h => h) (Or.inl ⟨by rfl, ?_⟩) hHeld ?_
  rotate_left
  · (intro w hSw; (try dsimp only at hSw); go_simp; (try with_reducible rfl))
  try simp only [Act.put, List.setIfInBounds_toArray, List.set_cons_zero, List.set_cons_succ, List.getElem_toArray, List.getElem_cons_succ, List.getElem_cons_zero]
  refine wpAnyH_take (i := 1) (oi := _) (v := ?_) rfl (by kernel_rfl) (by kernel_rfl) (by kernel_rfl) (fun _ _ _ h => h) (Or.inl ⟨by rfl, ?_⟩) hHeld ?_
  rotate_left
  · (intro w hSw; (try dsimp only at hSw); go_simp; (try with_reducible rfl))
  try simp only [Act.put, List.setIfInBounds_toArray, List.set_cons_zero, List.set_cons_succ, List.getElem_toArray, List.getElem_cons_succ, List.getElem_cons_zero]
  refine wpAnyH_take (i := 2) (oi := _) (v := ?_) rfl (by kernel_rfl) (by kernel_rfl) (by kernel_rfl) (fun _ _ _ h => h) (Or.inl ⟨by rfl, ?_⟩) hHeld ?_
  rotate_left
  · (intro w hSw; (try dsimp only at hSw); go_simp; (try with_reducible rfl))
  try simp only [Act.put, List.setIfInBounds_toArray, List.set_cons_zero, List.set_cons_succ, List.getElem_toArray, List.getElem_cons_succ, List.getElem_cons_zero]
  refine wpAnyH_take (i := 3) (oi := _) (v := ?_) rfl (by kernel_rfl) (by kernel_rfl) (by kernel_rfl) (fun _ _ _ h => h) (Or.inl ⟨by rfl, ?_⟩) hHeld ?_
  rotate_left
  · (intro w hSw; (try dsimp only at hSw); go_simp; (try with_reducible rfl))
  try simp only [Act.put, List.setIfInBounds_toArray, List.set_cons_zero, List.set_cons_succ, List.getElem_toArray, List.getElem_cons_succ, List.getElem_cons_zero]
  refine wpAnyH_take (i := 4) (oi := _) (v := ?_) rfl (by kernel_rfl) (by kernel_rfl) (by kernel_rfl) (fun _ _ _ h => h) (Or.inl ⟨by rfl, ?_⟩) hHeld ?_
  rotate_left
  · (intro w hSw; (try dsimp only at hSw); go_simp; (try with_reducible rfl))
  try simp only [Act.put, List.setIfInBounds_toArray, List.set_cons_zero, List.set_cons_succ, List.getElem_toArray, List.getElem_cons_succ, List.getElem_cons_zero]
  refine wpAnyH_ready (rs := [5]) (by kernel_rfl) (by simp) ?_
  refine AllReadyH.cons (o := _) rfl (fun K hK => ?_) AllReadyH.nil
  rw [if_pos (by rfl)]
  refine wp_put_rc (s' := zS) (I' := nilV) (T' := nilV) _ (.tmp 2) (.tmp 133) rfl rfl rfl H.r rfl rfl ?_
  intro w8 P8
  refine hK.out _ _ (by rw [hE9.out]; exact (H.rd.off P8.off (fun e => H.n2 e.symm)).c2) (fun hHeld => ?_)
  clear hK K
  try simp only [Act.put, List.setIfInBounds_toArray, List.set_cons_zero, List.set_cons_succ, List.getElem_toArray, List.getElem_cons_succ, List.getElem_cons_zero]
  refine wpAnyH_take (i := 6) (oi := _) (v := ?_) rfl (by kernel_rfl) (by kernel_rfl) (by kernel_rfl) (fun _ _ _ h => h) (Or.inl ⟨by rfl, ?_⟩) hHeld ?_
  rotate_left
  · (intro w hSw; (try dsimp only at hSw); go_simp; (try with_reducible rfl))
  try simp only [Act.put, List.setIfInBounds_toArray, List.set_cons_zero, List.set_cons_succ, List.getElem_toArray, List.getElem_cons_succ, List.getElem_cons_zero]
  refine wpAnyH_done (by kernel_rfl) ?_ _
  go_wp2
  refine bodyPost_ret (results_rc2 rfl _ _ rfl P8.rc) rfl ?_
  exact ⟨⟨_, rfl, ⟨nilV, nilV, rfl, SlI.nil _, SlT.nil _⟩⟩, H.bel.trans (P8.below H.l2 H.bel.size)⟩
set_option maxHeartbeats 2000000 in
theorem rof_4_g (ht : t.size ≤ 1000000) (hK : nN (t, 0) 1 = K) (hq : sN (t, 0) 1 = q) (hs : Small ⟨(rdChg K {kR K with tx := nN q 6, pv := nN (sN q 6) 6} (sN (sN q 6) 6)).1, [], []⟩) (hk : K = 4) (he : ((rdChg K {kR K with tx := nN q 6, pv := nN (sN q 6) 6} (sN (sN q 6) 6)).2).2 = 0) (hE : bodyM (cleanM ⟨(rdChg K {kR K with tx := nN q 6, pv := nN (sN q 6) 6} (sN (sN q 6) 6)).1, [], []⟩) = (t, 0)) : Calls Try.prog 19 #[.string t] w fun e w' => (∃ v, e = .returned (.tuple #[v, .int .i64 0]) ∧ RecV w' v ⟨(rdChg K {kR K with tx := nN q 6, pv := nN (sN q 6) 6} (sN (sN q 6) 6)).1, [], []⟩) ∧ Below w.heap.size w w' := by
  have CN : Hid (∀ w1, Calls Try.prog 32 #[.pointer (some ⟨w1.heap.size, 0, none⟩), .int .i64 1] (w1.alloc (.cells #[.string t, .int .i64 0, .int .i64 0] 63)) fun r w' => r = .returned (.int .i64 K) ∧ RfS w' w1.heap.size q ∧ Below w1.heap.size w1 w') := fun w1 => by rw [← hK, ← hq]; exact rd_start (by omega) w1
  have CB : Hid (∀ wx v, RecV wx v ⟨(rdChg K {kR K with tx := nN q 6, pv := nN (sN q 6) 6} (sN (sN q 6) 6)).1, [], []⟩ → Calls Try.prog 11 #[v] wx fun r w' => r = .returned (.tuple #[.string (bodyM (cleanM ⟨(rdChg K {kR K with tx := nN q 6, pv := nN (sN q 6) 6} (sN (sN q 6) 6)).1, [], []⟩)).1, .int .i64 (bodyM (cleanM ⟨(rdChg K {kR K with tx := nN q 6, pv := nN (sN q 6) 6} (sN (sN q 6) 6)).1, [], []⟩)).2]) ∧ Below wx.heap.size wx w') := fun wx v h => rbody_any h hs
  rw [hE] at CB
  dsimp only at CB
  have tt : (t.toList == t.toList) = true := by simp
  clear hE
  have e1 : (K == 1) = false := by rw [hk]; rfl
  have e2 : (K == 2) = false := by rw [hk]; rfl
  have e3 : (K == 3) = false := by rw [hk]; rfl
  have e4 : (K == 4) = true := by rw [hk]; rfl
  clear hk hs hK hq
  go_enter Try.func19, Try.ntmps19
  go_wp2_with (first
    | (have := N1; refine wpList_new_rc _ rfl rfl ?_; intro w4 b5 N2)
    | (refine wpList_new_rc _ rfl rfl ?_; intro w1 b2 N1)
    | (have := H; go_at_call 32; refine (H.num _ (by omega) (by omega)).mono ?_; clear H this; rintro e w6 ⟨rfl, H⟩; have k2 := H.rd.c2; have k0 := H.c.c0; dsimp only [kR] at k0)
    | (go_at_call 32; refine (CN.out _).mono ?_; clear CN; rintro e w3 ⟨rfl, hr, hb⟩)
    | (refine wpList_at (Op.store 25 (.tmp 5) (.tmp 19)) rfl ?_; refine wpList_put_rc (s' := kR K) (I' := nilV) (T' := nilV) _ rfl (.tmp 5) (.tmp 19) rfl rfl rfl N2.rc rfl rfl ?_; intro w5 P5; have H := DoS.start N1 hr hb N2 P5; clear N1 hr hb N2 P5 this; generalize w1.heap.size = b4 at *; have k0 := H.c.c0; dsimp only [kR] at k0; have k4 := H.c.c4; dsimp only [kR] at k4; have k2 := H.rd.c2)
    | (refine wpList_at (Op.store 3 (.tmp 56) (.tmp 55)) rfl ?_; refine wpList_fput (s' := {kR K with tx := nN q 6}) (I' := nilV) (T' := nilV) _ rfl 3 (.tmp 56) (.tmp 55) rfl rfl rfl H.c (by omega) rfl (by kernel_rfl) rfl ?_; intro w5 P5; have H1 := H.put P5; clear H P5; have H := H1; clear H1; have k0 := H.c.c0; dsimp only [kR] at k0; have k4 := H.c.c4; dsimp only [kR] at k4; have k2 := H.rd.c2)
    | (refine wpList_at (Op.store 3 (.tmp 59) (.tmp 58)) rfl ?_; refine wpList_fput (s' := {kR K with tx := nN q 6, pv := nN (sN q 6) 6}) (I' := nilV) (T' := nilV) _ rfl 3 (.tmp 59) (.tmp 58) rfl rfl rfl H.c (by omega) rfl (by kernel_rfl) rfl ?_; intro w5 P5; have H1 := H.put P5; clear H P5; have H := H1; clear H1; have k0 := H.c.c0; dsimp only [kR] at k0; have k4 := H.c.c4; dsimp only [kR] at k4; have k2 := H.rd.c2)
    | (go_at_call 34; refine (H.change rfl rfl _).mono ?_; clear H; rintro e w7 ⟨rfl, H⟩; have k2 := H.rd.c2)
    | (refine wpList_at (Op.store 25 (.tmp 5) (.tmp 64)) rfl ?_; refine wpList_put_rc (s' := (rdChg K {kR K with tx := nN q 6, pv := nN (sN q 6) 6} (sN (sN q 6) 6)).1) (I' := nilV) (T' := nilV) _ rfl (.tmp 5) (.tmp 64) rfl rfl rfl H.c rfl rfl ?_; intro w5 P5; have H1 := H.put P5; clear H P5; have H := H1; clear H1; have k2 := H.rd.c2)
    | (refine wpList_load_rc _ rfl (.tmp 5) rfl rfl H.c ?_)
    | (go_at_call 11; refine (CB.out _ _ ⟨_, _, rfl, SlI.nil _, SlT.nil _⟩).mono ?_; clear CB; rintro e w8 ⟨rfl, b8⟩; have H1 := H.below b8; clear H; have H := H1; clear H1)
    | (refine wpList_at (Op.store 25 (.tmp 2) (.tmp 151)) rfl ?_; refine wpList_put_rc (s' := (rdChg K {kR K with tx := nN q 6, pv := nN (sN q 6) 6} (sN (sN q 6) 6)).1) (I' := nilV) (T' := nilV) _ rfl (.tmp 2) (.tmp 151) rfl rfl rfl H.r rfl rfl ?_; intro w9 P9))
  refine bodyPost_ret (results_rc2 rfl _ _ rfl P9.rc) rfl ?_
  exact ⟨⟨_, rfl, ⟨nilV, nilV, rfl, SlI.nil _, SlT.nil _⟩⟩, H.bel.trans (P9.below H.l2 H.bel.size)⟩
set_option maxHeartbeats 2000000 in
theorem rof_4_b (ht : t.size ≤ 1000000) (hK : nN (t, 0) 1 = K) (hq : sN (t, 0) 1 = q) (hs : Small ⟨(rdChg K {kR K with tx := nN q 6, pv := nN (sN q 6) 6} (sN (sN q 6) 6)).1, [], []⟩) (hk : K = 4) (he : ((rdChg K {kR K with tx := nN q 6, pv := nN (sN q 6) 6} (sN (sN q 6) 6)).2).2 = 0) (hE : (bodyM (cleanM ⟨(rdChg K {kR K with tx := nN q 6, pv := nN (sN q 6) 6} (sN (sN q 6) 6)).1, [], []⟩)).2 ≠ 0) : Calls Try.prog 19 #[.string t] w fun e w' => (∃ v, e = .returned (.tuple #[v, .int .i64 4]) ∧ RecV w' v zM) ∧ Below w.heap.size w w' := by
  have CN : Hid (∀ w1, Calls Try.prog 32 #[.pointer (some ⟨w1.heap.size, 0, none⟩), .int .i64 1] (w1.alloc (.cells #[.string t, .int .i64 0, .int .i64 0] 63)) fun r w' => r = .returned (.int .i64 K) ∧ RfS w' w1.heap.size q ∧ Below w1.heap.size w1 w') := fun w1 => by rw [← hK, ← hq]; exact rd_start (by omega) w1
  have CB : Hid (∀ wx v, RecV wx v ⟨(rdChg K {kR K with tx := nN q 6, pv := nN (sN q 6) 6} (sN (sN q 6) 6)).1, [], []⟩ → Calls Try.prog 11 #[v] wx fun r w' => r = .returned (.tuple #[.string (bodyM (cleanM ⟨(rdChg K {kR K with tx := nN q 6, pv := nN (sN q 6) 6} (sN (sN q 6) 6)).1, [], []⟩)).1, .int .i64 (bodyM (cleanM ⟨(rdChg K {kR K with tx := nN q 6, pv := nN (sN q 6) 6} (sN (sN q 6) 6)).1, [], []⟩)).2]) ∧ Below wx.heap.size wx w') := fun wx v h => rbody_any h hs
  generalize (bodyM (cleanM ⟨(rdChg K {kR K with tx := nN q 6, pv := nN (sN q 6) 6} (sN (sN q 6) 6)).1, [], []⟩)).1 = Z at *
  generalize (bodyM (cleanM ⟨(rdChg K {kR K with tx := nN q 6, pv := nN (sN q 6) 6} (sN (sN q 6) 6)).1, [], []⟩)).2 = E at *
  have hE' : (E != 0) = true := by simpa using hE
  clear hE
  have e1 : (K == 1) = false := by rw [hk]; rfl
  have e2 : (K == 2) = false := by rw [hk]; rfl
  have e3 : (K == 3) = false := by rw [hk]; rfl
  have e4 : (K == 4) = true := by rw [hk]; rfl
  clear hk hs hK hq
  go_enter Try.func19, Try.ntmps19
  go_wp2_with (first
    | (have := N1; refine wpList_new_rc _ rfl rfl ?_; intro w4 b5 N2)
    | (refine wpList_new_rc _ rfl rfl ?_; intro w1 b2 N1)
    | (have := H; go_at_call 32; refine (H.num _ (by omega) (by omega)).mono ?_; clear H this; rintro e w6 ⟨rfl, H⟩; have k2 := H.rd.c2; have k0 := H.c.c0; dsimp only [kR] at k0)
    | (go_at_call 32; refine (CN.out _).mono ?_; clear CN; rintro e w3 ⟨rfl, hr, hb⟩)
    | (refine wpList_at (Op.store 25 (.tmp 5) (.tmp 19)) rfl ?_; refine wpList_put_rc (s' := kR K) (I' := nilV) (T' := nilV) _ rfl (.tmp 5) (.tmp 19) rfl rfl rfl N2.rc rfl rfl ?_; intro w5 P5; have H := DoS.start N1 hr hb N2 P5; clear N1 hr hb N2 P5 this; generalize w1.heap.size = b4 at *; have k0 := H.c.c0; dsimp only [kR] at k0; have k4 := H.c.c4; dsimp only [kR] at k4; have k2 := H.rd.c2)
    | (refine wpList_at (Op.store 3 (.tmp 56) (.tmp 55)) rfl ?_; refine wpList_fput (s' := {kR K with tx := nN q 6}) (I' := nilV) (T' := nilV) _ rfl 3 (.tmp 56) (.tmp 55) rfl rfl rfl H.c (by omega) rfl (by kernel_rfl) rfl ?_; intro w5 P5; have H1 := H.put P5; clear H P5; have H := H1; clear H1; have k0 := H.c.c0; dsimp only [kR] at k0; have k4 := H.c.c4; dsimp only [kR] at k4; have k2 := H.rd.c2)
    | (refine wpList_at (Op.store 3 (.tmp 59) (.tmp 58)) rfl ?_; refine wpList_fput (s' := {kR K with tx := nN q 6, pv := nN (sN q 6) 6}) (I' := nilV) (T' := nilV) _ rfl 3 (.tmp 59) (.tmp 58) rfl rfl rfl H.c (by omega) rfl (by kernel_rfl) rfl ?_; intro w5 P5; have H1 := H.put P5; clear H P5; have H := H1; clear H1; have k0 := H.c.c0; dsimp only [kR] at k0; have k4 := H.c.c4; dsimp only [kR] at k4; have k2 := H.rd.c2)
    | (go_at_call 34; refine (H.change rfl rfl _).mono ?_; clear H; rintro e w7 ⟨rfl, H⟩; have k2 := H.rd.c2)
    | (refine wpList_at (Op.store 25 (.tmp 5) (.tmp 64)) rfl ?_; refine wpList_put_rc (s' := (rdChg K {kR K with tx := nN q 6, pv := nN (sN q 6) 6} (sN (sN q 6) 6)).1) (I' := nilV) (T' := nilV) _ rfl (.tmp 5) (.tmp 64) rfl rfl rfl H.c rfl rfl ?_; intro w5 P5; have H1 := H.put P5; clear H P5; have H := H1; clear H1; have k2 := H.rd.c2)
    | (refine wpList_load_rc _ rfl (.tmp 5) rfl rfl H.c ?_)
    | (go_at_call 11; refine (CB.out _ _ ⟨_, _, rfl, SlI.nil _, SlT.nil _⟩).mono ?_; clear CB; rintro e w8 ⟨rfl, b8⟩; have H1 := H.below b8; clear H; have H := H1; clear H1)
    | (refine wpList_at (Op.store 25 (.tmp 2) (.tmp 150)) rfl ?_; refine wpList_put_rc (s' := zS) (I' := nilV) (T' := nilV) _ rfl (.tmp 2) (.tmp 150) rfl rfl rfl H.r rfl rfl ?_; intro w9 P9))
  refine bodyPost_ret (results_rc2 rfl _ _ rfl P9.rc) rfl ?_
  exact ⟨⟨_, rfl, ⟨nilV, nilV, rfl, SlI.nil _, SlT.nil _⟩⟩, H.bel.trans (P9.below H.l2 H.bel.size)⟩
set_option maxHeartbeats 2000000 in
theorem rof_4_z (ht : t.size ≤ 1000000) (hK : nN (t, 0) 1 = K) (hq : sN (t, 0) 1 = q) (hs : Small ⟨(rdChg K {kR K with tx := nN q 6, pv := nN (sN q 6) 6} (sN (sN q 6) 6)).1, [], []⟩) (hk : K = 4) (he : ((rdChg K {kR K with tx := nN q 6, pv := nN (sN q 6) 6} (sN (sN q 6) 6)).2).2 = 0) (hE : (bodyM (cleanM ⟨(rdChg K {kR K with tx := nN q 6, pv := nN (sN q 6) 6} (sN (sN q 6) 6)).1, [], []⟩)).2 = 0) (hZ : (bodyM (cleanM ⟨(rdChg K {kR K with tx := nN q 6, pv := nN (sN q 6) 6} (sN (sN q 6) 6)).1, [], []⟩)).1 ≠ t) : Calls Try.prog 19 #[.string t] w fun e w' => (∃ v, e = .returned (.tuple #[v, .int .i64 4]) ∧ RecV w' v zM) ∧ Below w.heap.size w w' := by
  have CN : Hid (∀ w1, Calls Try.prog 32 #[.pointer (some ⟨w1.heap.size, 0, none⟩), .int .i64 1] (w1.alloc (.cells #[.string t, .int .i64 0, .int .i64 0] 63)) fun r w' => r = .returned (.int .i64 K) ∧ RfS w' w1.heap.size q ∧ Below w1.heap.size w1 w') := fun w1 => by rw [← hK, ← hq]; exact rd_start (by omega) w1
  have CB : Hid (∀ wx v, RecV wx v ⟨(rdChg K {kR K with tx := nN q 6, pv := nN (sN q 6) 6} (sN (sN q 6) 6)).1, [], []⟩ → Calls Try.prog 11 #[v] wx fun r w' => r = .returned (.tuple #[.string (bodyM (cleanM ⟨(rdChg K {kR K with tx := nN q 6, pv := nN (sN q 6) 6} (sN (sN q 6) 6)).1, [], []⟩)).1, .int .i64 (bodyM (cleanM ⟨(rdChg K {kR K with tx := nN q 6, pv := nN (sN q 6) 6} (sN (sN q 6) 6)).1, [], []⟩)).2]) ∧ Below wx.heap.size wx w') := fun wx v h => rbody_any h hs
  rw [hE] at CB
  generalize (bodyM (cleanM ⟨(rdChg K {kR K with tx := nN q 6, pv := nN (sN q 6) 6} (sN (sN q 6) 6)).1, [], []⟩)).1 = Z at *
  have hZ' : (Z.toList == t.toList) = false := toList_ne hZ
  clear hZ
  clear hE
  have e1 : (K == 1) = false := by rw [hk]; rfl
  have e2 : (K == 2) = false := by rw [hk]; rfl
  have e3 : (K == 3) = false := by rw [hk]; rfl
  have e4 : (K == 4) = true := by rw [hk]; rfl
  clear hk hs hK hq
  go_enter Try.func19, Try.ntmps19
  go_wp2_with (first
    | (have := N1; refine wpList_new_rc _ rfl rfl ?_; intro w4 b5 N2)
    | (refine wpList_new_rc _ rfl rfl ?_; intro w1 b2 N1)
    | (have := H; go_at_call 32; refine (H.num _ (by omega) (by omega)).mono ?_; clear H this; rintro e w6 ⟨rfl, H⟩; have k2 := H.rd.c2; have k0 := H.c.c0; dsimp only [kR] at k0)
    | (go_at_call 32; refine (CN.out _).mono ?_; clear CN; rintro e w3 ⟨rfl, hr, hb⟩)
    | (refine wpList_at (Op.store 25 (.tmp 5) (.tmp 19)) rfl ?_; refine wpList_put_rc (s' := kR K) (I' := nilV) (T' := nilV) _ rfl (.tmp 5) (.tmp 19) rfl rfl rfl N2.rc rfl rfl ?_; intro w5 P5; have H := DoS.start N1 hr hb N2 P5; clear N1 hr hb N2 P5 this; generalize w1.heap.size = b4 at *; have k0 := H.c.c0; dsimp only [kR] at k0; have k4 := H.c.c4; dsimp only [kR] at k4; have k2 := H.rd.c2)
    | (refine wpList_at (Op.store 3 (.tmp 56) (.tmp 55)) rfl ?_; refine wpList_fput (s' := {kR K with tx := nN q 6}) (I' := nilV) (T' := nilV) _ rfl 3 (.tmp 56) (.tmp 55) rfl rfl rfl H.c (by omega) rfl (by kernel_rfl) rfl ?_; intro w5 P5; have H1 := H.put P5; clear H P5; have H := H1; clear H1; have k0 := H.c.c0; dsimp only [kR] at k0; have k4 := H.c.c4; dsimp only [kR] at k4; have k2 := H.rd.c2)
    | (refine wpList_at (Op.store 3 (.tmp 59) (.tmp 58)) rfl ?_; refine wpList_fput (s' := {kR K with tx := nN q 6, pv := nN (sN q 6) 6}) (I' := nilV) (T' := nilV) _ rfl 3 (.tmp 59) (.tmp 58) rfl rfl rfl H.c (by omega) rfl (by kernel_rfl) rfl ?_; intro w5 P5; have H1 := H.put P5; clear H P5; have H := H1; clear H1; have k0 := H.c.c0; dsimp only [kR] at k0; have k4 := H.c.c4; dsimp only [kR] at k4; have k2 := H.rd.c2)
    | (go_at_call 34; refine (H.change rfl rfl _).mono ?_; clear H; rintro e w7 ⟨rfl, H⟩; have k2 := H.rd.c2)
    | (refine wpList_at (Op.store 25 (.tmp 5) (.tmp 64)) rfl ?_; refine wpList_put_rc (s' := (rdChg K {kR K with tx := nN q 6, pv := nN (sN q 6) 6} (sN (sN q 6) 6)).1) (I' := nilV) (T' := nilV) _ rfl (.tmp 5) (.tmp 64) rfl rfl rfl H.c rfl rfl ?_; intro w5 P5; have H1 := H.put P5; clear H P5; have H := H1; clear H1; have k2 := H.rd.c2)
    | (refine wpList_load_rc _ rfl (.tmp 5) rfl rfl H.c ?_)
    | (go_at_call 11; refine (CB.out _ _ ⟨_, _, rfl, SlI.nil _, SlT.nil _⟩).mono ?_; clear CB; rintro e w8 ⟨rfl, b8⟩; have H1 := H.below b8; clear H; have H := H1; clear H1)
    | (refine wpList_at (Op.store 25 (.tmp 2) (.tmp 150)) rfl ?_; refine wpList_put_rc (s' := zS) (I' := nilV) (T' := nilV) _ rfl (.tmp 2) (.tmp 150) rfl rfl rfl H.r rfl rfl ?_; intro w9 P9))
  refine bodyPost_ret (results_rc2 rfl _ _ rfl P9.rc) rfl ?_
  exact ⟨⟨_, rfl, ⟨nilV, nilV, rfl, SlI.nil _, SlT.nil _⟩⟩, H.bel.trans (P9.below H.l2 H.bel.size)⟩
end
end Go.Proofs.Ytakdfdnndogaiaa
