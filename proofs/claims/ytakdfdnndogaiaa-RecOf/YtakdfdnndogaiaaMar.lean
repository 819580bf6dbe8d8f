/- The document's Of, kinds apart. The document's Of, kinds that have a list. -/
import Derived.Test.YtakdfdnndogaiaaMan
import Derived.Deep.RegionHeld3
namespace Go.Proofs.Ytakdfdnndogaiaa
open Go.RowKit
set_option linter.unusedVariables false
set_option linter.unusedSimpArgs false
set_option maxRecDepth 100000

section
variable {w : World} {t : ByteArray} {K : Int} {q : Lf}
set_option maxHeartbeats 2000000 in
theorem rof_10_e (ht : t.size ≤ 1000000) (hK : nN (t, 0) 1 = K) (hq : sN (t, 0) 1 = q) (hk : K = 10) (he : (sN (sN q 4) 1).2 ≠ 0) : Calls Try.prog 19 #[.string t] w fun e w' => (∃ v, e = .returned (.tuple #[v, .int .i64 (sN (sN q 4) 1).2]) ∧ RecV w' v zM) ∧ Below w.heap.size w w' := by
  have CN : Hid (∀ w1, Calls Try.prog 32 #[.pointer (some ⟨w1.heap.size, 0, none⟩), .int .i64 1] (w1.alloc (.cells #[.string t, .int .i64 0, .int .i64 0] 63)) fun r w' => r = .returned (.int .i64 K) ∧ RfS w' w1.heap.size q ∧ Below w1.heap.size w1 w') := fun w1 => by rw [← hK, ← hq]; exact rd_start (by omega) w1
  have he' : ((sN (sN q 4) 1).2 != 0) = true := by simpa using he
  clear he
  generalize hQ9 : (sN (sN q 4) 1).2 = E9 at *
  have hE9 : Hid (E9 = (sN (sN q 4) 1).2) := hQ9.symm
  have e1 : (K == 1) = false := by rw [hk]; rfl
  have e2 : (K == 2) = false := by rw [hk]; rfl
  have e3 : (K == 3) = false := by rw [hk]; rfl
  have e4 : (K == 4) = false := by rw [hk]; rfl
  have e5 : (K == 5) = false := by rw [hk]; rfl
  have e6 : (K == 6) = false := by rw [hk]; rfl
  have e7 : (K == 7) = false := by rw [hk]; rfl
  have e8 : (K == 8) = false := by rw [hk]; rfl
  have e9 : (K == 9) = false := by rw [hk]; rfl
  have e10 : (K == 10) = true := by rw [hk]; rfl
  clear hk hK hq
  go_enter Try.func19, Try.ntmps19
  go_wp2_with (first
    | (have := N1; refine wpList_new_rc _ rfl rfl ?_; intro w4 b5 N2)
    | (refine wpList_new_rc _ rfl rfl ?_; intro w1 b2 N1)
    | (have := H; go_at_call 32; refine (H.num _ (by omega) (by omega)).mono ?_; clear H this; rintro e w6 ⟨rfl, H⟩; have k2 := H.rd.c2; have k0 := H.c.c0; dsimp only [kR] at k0)
    | (go_at_call 32; refine (CN.out _).mono ?_; clear CN; rintro e w3 ⟨rfl, hr, hb⟩)
    | (refine wpList_at (Op.store 25 (.tmp 5) (.tmp 19)) rfl ?_; refine wpList_put_rc (s' := kR K) (I' := nilV) (T' := nilV) _ rfl (.tmp 5) (.tmp 19) rfl rfl rfl N2.rc rfl rfl ?_; intro w5 P5; have H := DoS.start N1 hr hb N2 P5; clear N1 hr hb N2 P5 this; generalize w1.heap.size = b4 at *; have k0 := H.c.c0; dsimp only [kR] at k0; have k4 := H.c.c4; dsimp only [kR] at k4; have k2 := H.rd.c2)
    | (refine wpList_at (Op.store 3 (.tmp 124) (.tmp 123)) rfl ?_; refine wpList_fput (s' := {kR K with ep := nN q 4}) (I' := nilV) (T' := nilV) _ rfl 3 (.tmp 124) (.tmp 123) rfl rfl rfl H.c (by omega) rfl (by kernel_rfl) rfl ?_; intro w5 P5; have H1 := H.put P5; clear H P5; have H := H1; clear H1; have k0 := H.c.c0; dsimp only [kR] at k0; have k4 := H.c.c4; dsimp only [kR] at k4; have k2 := H.rd.c2)
    | (refine wpList_at (Op.store 3 (.tmp 127) (.tmp 126)) rfl ?_; refine wpList_fput (s' := {kR K with ep := nN q 4, nd := nN (sN q 4) 1}) (I' := nilV) (T' := nilV) _ rfl 3 (.tmp 127) (.tmp 126) rfl rfl rfl H.c (by omega) rfl (by kernel_rfl) rfl ?_; intro w5 P5; have H1 := H.put P5; clear H P5; have H := H1; clear H1; have k0 := H.c.c0; dsimp only [kR] at k0; have k4 := H.c.c4; dsimp only [kR] at k4; have k2 := H.rd.c2)
    | (refine wpList_load_rc _ rfl (.tmp 5) rfl rfl H.c ?_))
  rw [hQ9] at k2
  clear hQ9
  have H0 := H.below ((Below.refl _ _).drew)
  clear H
  have H := H0
  clear H0
  refine wp_region_held_drew (S := fun W : World => W.cell? ⟨b4, 2, none⟩ = some (.int .i64 E9)) (by kernel_rfl) (by rw [hE9.out]; exact H.rd.c2) (fun hHeld => ?_)
  refine wpAnyH_take (i := 0) (oi := _) (v := ?_) rfl (by kernel_rfl) (by kernel_rfl) (by kernel_rfl) (fun _ _ _ h => h) (Or.inl ⟨by rfl, ?_⟩) hHeld ?_
  rotate_left
  · (intro w hSw; (try dsimp only at hSw); go_simp; (try with_reducible rfl))
  try simp only [Act.put, List.setIfInBounds_toArray, List.set_cons_zero, List.set_cons_succ, List.getElem_toArray, List.getElem_cons_succ, List.getElem_cons_zero]
  refine wpAnyH_take (i := 1) (oi := _) (v := ?_) rfl (by kernel_rfl) (by kernel_rfl) (by kernel_rfl) (fun _ _ _ h => h) (Or.inl ⟨by rfl, ?_⟩) hHeld ?_
  rotate_left
  · (intro w hSw; (try dsimp only at hSw); go_simp; (try with_reducible rfl))
  try simp only [Act.put, List.setIfInBounds_toArray, List.set_cons_zero, List.set_cons_succ, List.getElem_toArray, List.getElem_cons_succ, List.getElem_cons_zero]
  refine wpAnyH_take (i := 2) (oi := _) (v := ?_) rfl (by kernel_rfl) (by kernel_rfl) (by kernel_rfl) (fun _ _ _ h => h) (Or.inl ⟨by rfl, ?_⟩) hHeld ?_
  rotate_left
  · (intro w hSw; (try dsimp only at hSw); go_simp; (try with_reducible rfl))
  try simp only [Act.put, List.setIfInBounds_toArray, List.set_cons_zero, List.set_cons_succ, List.getElem_toArray, List.getElem_cons_succ, List.getElem_cons_zero]
  refine wpAnyH_take (i := 3) (oi := _) (v := ?_) rfl (by kernel_rfl) (by kernel_rfl) (by kernel_rfl) (fun _ _ _ h => h) (Or.inl ⟨by rfl, ?_⟩) hHeld ?_
  rotate_left
  · (intro w hSw; (try dsimp only at hSw); go_simp; (try with_reducible rfl))
  try simp only [Act.put, List.setIfInBounds_toArray, List.set_cons_zero, List.set_cons_succ, List.getElem_toArray, List.getElem_cons_succ, List.getElem_cons_zero]
  refine wpAnyH_take (i := 4) (oi := _) (v := ?_) rfl (by kernel_rfl) (by kernel_rfl) (by kernel_rfl) (fun _ _ _ h => h) (Or.inl ⟨by rfl, ?_⟩) hHeld ?_
  rotate_left
  · (intro w hSw; (try dsimp only at hSw); go_simp; (try with_reducible rfl))
  try simp only [Act.put, List.setIfInBounds_toArray, List.set_cons_zero, List.set_cons_succ, List.getElem_toArray, List.getElem_cons_succ, List.getElem_cons_zero]
  refine wpAnyH_ready (rs := [5]) (by kernel_rfl) (by simp) ?_
  refine AllReadyH.cons (o := _) rfl (fun K hK => ?_) AllReadyH.nil
  rw [if_pos (by rfl)]
  refine wp_put_rc (s' := zS) (I' := nilV) (T' := nilV) _ (.tmp 2) (.tmp 133) rfl rfl rfl H.r rfl rfl ?_
  intro w8 P8
  refine hK.out _ _ (by rw [hE9.out]; exact (H.rd.off P8.off (fun e => H.n2 e.symm)).c2) (fun hHeld => ?_)
  clear hK K
  try simp only [Act.put, List.setIfInBounds_toArray, List.set_cons_zero, List.set_cons_succ, List.getElem_toArray, List.getElem_cons_succ, List.getElem_cons_zero]
  refine wpAnyH_take (i := 6) (oi := _) (v := ?_) rfl (by kernel_rfl) (by kernel_rfl) (by kernel_rfl) (fun _ _ _ h => h) (Or.inl ⟨by rfl, ?_⟩) hHeld ?_
  rotate_left
  · (intro w hSw; (try dsimp only at hSw); go_simp; (try with_reducible rfl))
  try simp only [Act.put, List.setIfInBounds_toArray, List.set_cons_zero, List.set_cons_succ, List.getElem_toArray, List.getElem_cons_succ, List.getElem_cons_zero]
  refine wpAnyH_done (by kernel_rfl) ?_ _
  go_wp2
  refine bodyPost_ret (results_rc2 rfl _ _ rfl P8.rc) rfl ?_
  exact ⟨⟨_, rfl, ⟨nilV, nilV, rfl, SlI.nil _, SlT.nil _⟩⟩, H.bel.trans (P8.below H.l2 H.bel.size)⟩
set_option maxHeartbeats 2000000 in
theorem rof_10_g (ht : t.size ≤ 1000000) (hK : nN (t, 0) 1 = K) (hq : sN (t, 0) 1 = q) (hs : Small ⟨{kR K with ep := nN q 4, nd := nN (sN q 4) 1}, [], []⟩) (hk : K = 10) (he : (sN (sN q 4) 1).2 = 0) (hE : bodyM (cleanM ⟨{kR K with ep := nN q 4, nd := nN (sN q 4) 1}, [], []⟩) = (t, 0)) : Calls Try.prog 19 #[.string t] w fun e w' => (∃ v, e = .returned (.tuple #[v, .int .i64 0]) ∧ RecV w' v ⟨{kR K with ep := nN q 4, nd := nN (sN q 4) 1}, [], []⟩) ∧ Below w.heap.size w w' := by
  have CN : Hid (∀ w1, Calls Try.prog 32 #[.pointer (some ⟨w1.heap.size, 0, none⟩), .int .i64 1] (w1.alloc (.cells #[.string t, .int .i64 0, .int .i64 0] 63)) fun r w' => r = .returned (.int .i64 K) ∧ RfS w' w1.heap.size q ∧ Below w1.heap.size w1 w') := fun w1 => by rw [← hK, ← hq]; exact rd_start (by omega) w1
  have CB : Hid (∀ wx v, RecV wx v ⟨{kR K with ep := nN q 4, nd := nN (sN q 4) 1}, [], []⟩ → Calls Try.prog 11 #[v] wx fun r w' => r = .returned (.tuple #[.string (bodyM (cleanM ⟨{kR K with ep := nN q 4, nd := nN (sN q 4) 1}, [], []⟩)).1, .int .i64 (bodyM (cleanM ⟨{kR K with ep := nN q 4, nd := nN (sN q 4) 1}, [], []⟩)).2]) ∧ Below wx.heap.size wx w') := fun wx v h => rbody_any h hs
  rw [hE] at CB
  dsimp only at CB
  have tt : (t.toList == t.toList) = true := by simp
  clear hE
  have e1 : (K == 1) = false := by rw [hk]; rfl
  have e2 : (K == 2) = false := by rw [hk]; rfl
  have e3 : (K == 3) = false := by rw [hk]; rfl
  have e4 : (K == 4) = false := by rw [hk]; rfl
  have e5 : (K == 5) = false := by rw [hk]; rfl
  have e6 : (K == 6) = false := by rw [hk]; rfl
  have e7 : (K == 7) = false := by rw [hk]; rfl
  have e8 : (K == 8) = false := by rw [hk]; rfl
  have e9 : (K == 9) = false := by rw [hk]; rfl
  have e10 : (K == 10) = true := by rw [hk]; rfl
  clear hk hs hK hq
  go_enter Try.func19, Try.ntmps19
  go_wp2_with (first
    | (have := N1; refine wpList_new_rc _ rfl rfl ?_; intro w4 b5 N2)
    | (refine wpList_new_rc _ rfl rfl ?_; intro w1 b2 N1)
    | (have := H; go_at_call 32; refine (H.num _ (by omega) (by omega)).mono ?_; clear H this; rintro e w6 ⟨rfl, H⟩; have k2 := H.rd.c2; have k0 := H.c.c0; dsimp only [kR] at k0)
    | (go_at_call 32; refine (CN.out _).mono ?_; clear CN; rintro e w3 ⟨rfl, hr, hb⟩)
    | (refine wpList_at (Op.store 25 (.tmp 5) (.tmp 19)) rfl ?_; refine wpList_put_rc (s' := kR K) (I' := nilV) (T' := nilV) _ rfl (.tmp 5) (.tmp 19) rfl rfl rfl N2.rc rfl rfl ?_; intro w5 P5; have H := DoS.start N1 hr hb N2 P5; clear N1 hr hb N2 P5 this; generalize w1.heap.size = b4 at *; have k0 := H.c.c0; dsimp only [kR] at k0; have k4 := H.c.c4; dsimp only [kR] at k4; have k2 := H.rd.c2)
    | (refine wpList_at (Op.store 3 (.tmp 124) (.tmp 123)) rfl ?_; refine wpList_fput (s' := {kR K with ep := nN q 4}) (I' := nilV) (T' := nilV) _ rfl 3 (.tmp 124) (.tmp 123) rfl rfl rfl H.c (by omega) rfl (by kernel_rfl) rfl ?_; intro w5 P5; have H1 := H.put P5; clear H P5; have H := H1; clear H1; have k0 := H.c.c0; dsimp only [kR] at k0; have k4 := H.c.c4; dsimp only [kR] at k4; have k2 := H.rd.c2)
    | (refine wpList_at (Op.store 3 (.tmp 127) (.tmp 126)) rfl ?_; refine wpList_fput (s' := {kR K with ep := nN q 4, nd := nN (sN q 4) 1}) (I' := nilV) (T' := nilV) _ rfl 3 (.tmp 127) (.tmp 126) rfl rfl rfl H.c (by omega) rfl (by kernel_rfl) rfl ?_; intro w5 P5; have H1 := H.put P5; clear H P5; have H := H1; clear H1; have k0 := H.c.c0; dsimp only [kR] at k0; have k4 := H.c.c4; dsimp only [kR] at k4; have k2 := H.rd.c2)
    | (refine wpList_load_rc _ rfl (.tmp 5) rfl rfl H.c ?_)
    | (go_at_call 11; refine (CB.out _ _ ⟨_, _, rfl, SlI.nil _, SlT.nil _⟩).mono ?_; clear CB; rintro e w8 ⟨rfl, b8⟩; have H1 := H.below b8; clear H; have H := H1; clear H1)
    | (refine wpList_at (Op.store 25 (.tmp 2) (.tmp 151)) rfl ?_; refine wpList_put_rc (s' := {kR K with ep := nN q 4, nd := nN (sN q 4) 1}) (I' := nilV) (T' := nilV) _ rfl (.tmp 2) (.tmp 151) rfl rfl rfl H.r rfl rfl ?_; intro w9 P9))
  refine bodyPost_ret (results_rc2 rfl _ _ rfl P9.rc) rfl ?_
  exact ⟨⟨_, rfl, ⟨nilV, nilV, rfl, SlI.nil _, SlT.nil _⟩⟩, H.bel.trans (P9.below H.l2 H.bel.size)⟩
set_option maxHeartbeats 2000000 in
theorem rof_10_b (ht : t.size ≤ 1000000) (hK : nN (t, 0) 1 = K) (hq : sN (t, 0) 1 = q) (hs : Small ⟨{kR K with ep := nN q 4, nd := nN (sN q 4) 1}, [], []⟩) (hk : K = 10) (he : (sN (sN q 4) 1).2 = 0) (hE : (bodyM (cleanM ⟨{kR K with ep := nN q 4, nd := nN (sN q 4) 1}, [], []⟩)).2 ≠ 0) : Calls Try.prog 19 #[.string t] w fun e w' => (∃ v, e = .returned (.tuple #[v, .int .i64 4]) ∧ RecV w' v zM) ∧ Below w.heap.size w w' := by
  have CN : Hid (∀ w1, Calls Try.prog 32 #[.pointer (some ⟨w1.heap.size, 0, none⟩), .int .i64 1] (w1.alloc (.cells #[.string t, .int .i64 0, .int .i64 0] 63)) fun r w' => r = .returned (.int .i64 K) ∧ RfS w' w1.heap.size q ∧ Below w1.heap.size w1 w') := fun w1 => by rw [← hK, ← hq]; exact rd_start (by omega) w1
  have CB : Hid (∀ wx v, RecV wx v ⟨{kR K with ep := nN q 4, nd := nN (sN q 4) 1}, [], []⟩ → Calls Try.prog 11 #[v] wx fun r w' => r = .returned (.tuple #[.string (bodyM (cleanM ⟨{kR K with ep := nN q 4, nd := nN (sN q 4) 1}, [], []⟩)).1, .int .i64 (bodyM (cleanM ⟨{kR K with ep := nN q 4, nd := nN (sN q 4) 1}, [], []⟩)).2]) ∧ Below wx.heap.size wx w') := fun wx v h => rbody_any h hs
  generalize (bodyM (cleanM ⟨{kR K with ep := nN q 4, nd := nN (sN q 4) 1}, [], []⟩)).1 = Z at *
  generalize (bodyM (cleanM ⟨{kR K with ep := nN q 4, nd := nN (sN q 4) 1}, [], []⟩)).2 = E at *
  have hE' : (E != 0) = true := by simpa using hE
  clear hE
  have e1 : (K == 1) = false := by rw [hk]; rfl
  have e2 : (K == 2) = false := by rw [hk]; rfl
  have e3 : (K == 3) = false := by rw [hk]; rfl
  have e4 : (K == 4) = false := by rw [hk]; rfl
  have e5 : (K == 5) = false := by rw [hk]; rfl
  have e6 : (K == 6) = false := by rw [hk]; rfl
  have e7 : (K == 7) = false := by rw [hk]; rfl
  have e8 : (K == 8) = false := by rw [hk]; rfl
  have e9 : (K == 9) = false := by rw [hk]; rfl
  have e10 : (K == 10) = true := by rw [hk]; rfl
  clear hk hs hK hq
  go_enter Try.func19, Try.ntmps19
  go_wp2_with (first
    | (have := N1; refine wpList_new_rc _ rfl rfl ?_; intro w4 b5 N2)
    | (refine wpList_new_rc _ rfl rfl ?_; intro w1 b2 N1)
    | (have := H; go_at_call 32; refine (H.num _ (by omega) (by omega)).mono ?_; clear H this; rintro e w6 ⟨rfl, H⟩; have k2 := H.rd.c2; have k0 := H.c.c0; dsimp only [kR] at k0)
    | (go_at_call 32; refine (CN.out _).mono ?_; clear CN; rintro e w3 ⟨rfl, hr, hb⟩)
    | (refine wpList_at (Op.store 25 (.tmp 5) (.tmp 19)) rfl ?_; refine wpList_put_rc (s' := kR K) (I' := nilV) (T' := nilV) _ rfl (.tmp 5) (.tmp 19) rfl rfl rfl N2.rc rfl rfl ?_; intro w5 P5; have H := DoS.start N1 hr hb N2 P5; clear N1 hr hb N2 P5 this; generalize w1.heap.size = b4 at *; have k0 := H.c.c0; dsimp only [kR] at k0; have k4 := H.c.c4; dsimp only [kR] at k4; have k2 := H.rd.c2)
    | (refine wpList_at (Op.store 3 (.tmp 124) (.tmp 123)) rfl ?_; refine wpList_fput (s' := {kR K with ep := nN q 4}) (I' := nilV) (T' := nilV) _ rfl 3 (.tmp 124) (.tmp 123) rfl rfl rfl H.c (by omega) rfl (by kernel_rfl) rfl ?_; intro w5 P5; have H1 := H.put P5; clear H P5; have H := H1; clear H1; have k0 := H.c.c0; dsimp only [kR] at k0; have k4 := H.c.c4; dsimp only [kR] at k4; have k2 := H.rd.c2)
    | (refine wpList_at (Op.store 3 (.tmp 127) (.tmp 126)) rfl ?_; refine wpList_fput (s' := {kR K with ep := nN q 4, nd := nN (sN q 4) 1}) (I' := nilV) (T' := nilV) _ rfl 3 (.tmp 127) (.tmp 126) rfl rfl rfl H.c (by omega) rfl (by kernel_rfl) rfl ?_; intro w5 P5; have H1 := H.put P5; clear H P5; have H := H1; clear H1; have k0 := H.c.c0; dsimp only [kR] at k0; have k4 := H.c.c4; dsimp only [kR] at k4; have k2 := H.rd.c2)
    | (refine wpList_load_rc _ rfl (.tmp 5) rfl rfl H.c ?_)
    | (go_at_call 11; refine (CB.out _ _ ⟨_, _, rfl, SlI.nil _, SlT.nil _⟩).mono ?_; clear CB; rintro e w8 ⟨rfl, b8⟩; have H1 := H.below b8; clear H; have H := H1; clear H1)
    | (refine wpList_at (Op.store 25 (.tmp 2) (.tmp 150)) rfl ?_; refine wpList_put_rc (s' := zS) (I' := nilV) (T' := nilV) _ rfl (.tmp 2) (.tmp 150) rfl rfl rfl H.r rfl rfl ?_; intro w9 P9))
  refine bodyPost_ret (results_rc2 rfl _ _ rfl P9.rc) rfl ?_
  exact ⟨⟨_, rfl, ⟨nilV, nilV, rfl, SlI.nil _, SlT.nil _⟩⟩, H.bel.trans (P9.below H.l2 H.bel.size)⟩
set_option maxHeartbeats 2000000 in
theorem rof_10_z (ht : t.size ≤ 1000000) (hK : nN (t, 0) 1 = K) (hq : sN (t, 0) 1 = q) (hs : Small ⟨{kR K with ep := nN q 4, nd := nN (sN q 4) 1}, [], []⟩) (hk : K = 10) (he : (sN (sN q 4) 1).2 = 0) (hE : (bodyM (cleanM ⟨{kR K with ep := nN q 4, nd := nN (sN q 4) 1}, [], []⟩)).2 = 0) (hZ : (bodyM (cleanM ⟨{kR K with ep := nN q 4, nd := nN (sN q 4) 1}, [], []⟩)).1 ≠ t) : Calls Try.prog 19 #[.string t] w fun e w' => (∃ v, e = .returned (.tuple #[v, .int .i64 4]) ∧ RecV w' v zM) ∧ Below w.heap.size w w' := by
  have CN : Hid (∀ w1, Calls Try.prog 32 #[.pointer (some ⟨w1.heap.size, 0, none⟩), .int .i64 1] (w1.alloc (.cells #[.string t, .int .i64 0, .int .i64 0] 63)) fun r w' => r = .returned (.int .i64 K) ∧ RfS w' w1.heap.size q ∧ Below w1.heap.size w1 w') := fun w1 => by rw [← hK, ← hq]; exact rd_start (by omega) w1
  have CB : Hid (∀ wx v, RecV wx v ⟨{kR K with ep := nN q 4, nd := nN (sN q 4) 1}, [], []⟩ → Calls Try.prog 11 #[v] wx fun r w' => r = .returned (.tuple #[.string (bodyM (cleanM ⟨{kR K with ep := nN q 4, nd := nN (sN q 4) 1}, [], []⟩)).1, .int .i64 (bodyM (cleanM ⟨{kR K with ep := nN q 4, nd := nN (sN q 4) 1}, [], []⟩)).2]) ∧ Below wx.heap.size wx w') := fun wx v h => rbody_any h hs
  rw [hE] at CB
  generalize (bodyM (cleanM ⟨{kR K with ep := nN q 4, nd := nN (sN q 4) 1}, [], []⟩)).1 = Z at *
  have hZ' : (Z.toList == t.toList) = false := toList_ne hZ
  clear hZ
  clear hE
  have e1 : (K == 1) = false := by rw [hk]; rfl
  have e2 : (K == 2) = false := by rw [hk]; rfl
  have e3 : (K == 3) = false := by rw [hk]; rfl
  have e4 : (K == 4) = false := by rw [hk]; rfl
  have e5 : (K == 5) = false := by rw [hk]; rfl
  have e6 : (K == 6) = false := by rw [hk]; rfl
  have e7 : (K == 7) = false := by rw [hk]; rfl
  have e8 : (K == 8) = false := by rw [hk]; rfl
  have e9 : (K == 9) = false := by rw [hk]; rfl
  have e10 : (K == 10) = true := by rw [hk]; rfl
  clear hk hs hK hq
  go_enter Try.func19, Try.ntmps19
  go_wp2_with (first
    | (have := N1; refine wpList_new_rc _ rfl rfl ?_; intro w4 b5 N2)
    | (refine wpList_new_rc _ rfl rfl ?_; intro w1 b2 N1)
    | (have := H; go_at_call 32; refine (H.num _ (by omega) (by omega)).mono ?_; clear H this; rintro e w6 ⟨rfl, H⟩; have k2 := H.rd.c2; have k0 := H.c.c0; dsimp only [kR] at k0)
    | (go_at_call 32; refine (CN.out _).mono ?_; clear CN; rintro e w3 ⟨rfl, hr, hb⟩)
    | (refine wpList_at (Op.store 25 (.tmp 5) (.tmp 19)) rfl ?_; refine wpList_put_rc (s' := kR K) (I' := nilV) (T' := nilV) _ rfl (.tmp 5) (.tmp 19) rfl rfl rfl N2.rc rfl rfl ?_; intro w5 P5; have H := DoS.start N1 hr hb N2 P5; clear N1 hr hb N2 P5 this; generalize w1.heap.size = b4 at *; have k0 := H.c.c0; dsimp only [kR] at k0; have k4 := H.c.c4; dsimp only [kR] at k4; have k2 := H.rd.c2)
    | (refine wpList_at (Op.store 3 (.tmp 124) (.tmp 123)) rfl ?_; refine wpList_fput (s' := {kR K with ep := nN q 4}) (I' := nilV) (T' := nilV) _ rfl 3 (.tmp 124) (.tmp 123) rfl rfl rfl H.c (by omega) rfl (by kernel_rfl) rfl ?_; intro w5 P5; have H1 := H.put P5; clear H P5; have H := H1; clear H1; have k0 := H.c.c0; dsimp only [kR] at k0; have k4 := H.c.c4; dsimp only [kR] at k4; have k2 := H.rd.c2)
    | (refine wpList_at (Op.store 3 (.tmp 127) (.tmp 126)) rfl ?_; refine wpList_fput (s' := {kR K with ep := nN q 4, nd := nN (sN q 4) 1}) (I' := nilV) (T' := nilV) _ rfl 3 (.tmp 127) (.tmp 126) rfl rfl rfl H.c (by omega) rfl (by kernel_rfl) rfl ?_; intro w5 P5; have H1 := H.put P5; clear H P5; have H := H1; clear H1; have k0 := H.c.c0; dsimp only [kR] at k0; have k4 := H.c.c4; dsimp only [kR] at k4; have k2 := H.rd.c2)
    | (refine wpList_load_rc _ rfl (.tmp 5) rfl rfl H.c ?_)
    | (go_at_call 11; refine (CB.out _ _ ⟨_, _, rfl, SlI.nil _, SlT.nil _⟩).mono ?_; clear CB; rintro e w8 ⟨rfl, b8⟩; have H1 := H.below b8; clear H; have H := H1; clear H1)
    | (refine wpList_at (Op.store 25 (.tmp 2) (.tmp 150)) rfl ?_; refine wpList_put_rc (s' := zS) (I' := nilV) (T' := nilV) _ rfl (.tmp 2) (.tmp 150) rfl rfl rfl H.r rfl rfl ?_; intro w9 P9))
  refine bodyPost_ret (results_rc2 rfl _ _ rfl P9.rc) rfl ?_
  exact ⟨⟨_, rfl, ⟨nilV, nilV, rfl, SlI.nil _, SlT.nil _⟩⟩, H.bel.trans (P9.below H.l2 H.bel.size)⟩
set_option maxHeartbeats 2000000 in
theorem rof_o_e (ht : t.size ≤ 1000000) (hK : nN (t, 0) 1 = K) (hq : sN (t, 0) 1 = q) (h1 : K ≠ 1) (h2 : K ≠ 2) (h3 : K ≠ 3) (h4 : K ≠ 4) (h5 : K ≠ 5) (h6 : K ≠ 6) (h7 : K ≠ 7) (h8 : K ≠ 8) (h9 : K ≠ 9) (h10 : K ≠ 10) (he : (q).2 ≠ 0) : Calls Try.prog 19 #[.string t] w fun e w' => (∃ v, e = .returned (.tuple #[v, .int .i64 (q).2]) ∧ RecV w' v zM) ∧ Below w.heap.size w w' := by
  have CN : Hid (∀ w1, Calls Try.prog 32 #[.pointer (some ⟨w1.heap.size, 0, none⟩), .int .i64 1] (w1.alloc (.cells #[.string t, .int .i64 0, .int .i64 0] 63)) fun r w' => r = .returned (.int .i64 K) ∧ RfS w' w1.heap.size q ∧ Below w1.heap.size w1 w') := fun w1 => by rw [← hK, ← hq]; exact rd_start (by omega) w1
  have he' : ((q).2 != 0) = true := by simpa using he
  clear he
  generalize hQ9 : (q).2 = E9 at *
  have hE9 : Hid (E9 = (q).2) := hQ9.symm
  have e1 : (K == 1) = false := by simpa using h1
  have e2 : (K == 2) = false := by simpa using h2
  have e3 : (K == 3) = false := by simpa using h3
  have e4 : (K == 4) = false := by simpa using h4
  have e5 : (K == 5) = false := by simpa using h5
  have e6 : (K == 6) = false := by simpa using h6
  have e7 : (K == 7) = false := by simpa using h7
  have e8 : (K == 8) = false := by simpa using h8
  have e9 : (K == 9) = false := by simpa using h9
  have e10 : (K == 10) = false := by simpa using h10
  clear h1 h2 h3 h4 h5 h6 h7 h8 h9 h10 hK hq
  go_enter Try.func19, Try.ntmps19
  go_wp2_with (first
    | (have := N1; refine wpList_new_rc _ rfl rfl ?_; intro w4 b5 N2)
    | (refine wpList_new_rc _ rfl rfl ?_; intro w1 b2 N1)
    | (have := H; go_at_call 32; refine (H.num _ (by omega) (by omega)).mono ?_; clear H this; rintro e w6 ⟨rfl, H⟩; have k2 := H.rd.c2; have k0 := H.c.c0; dsimp only [kR] at k0)
    | (go_at_call 32; refine (CN.out _).mono ?_; clear CN; rintro e w3 ⟨rfl, hr, hb⟩)
    | (refine wpList_at (Op.store 25 (.tmp 5) (.tmp 19)) rfl ?_; refine wpList_put_rc (s' := kR K) (I' := nilV) (T' := nilV) _ rfl (.tmp 5) (.tmp 19) rfl rfl rfl N2.rc rfl rfl ?_; intro w5 P5; have H := DoS.start N1 hr hb N2 P5; clear N1 hr hb N2 P5 this; generalize w1.heap.size = b4 at *; have k0 := H.c.c0; dsimp only [kR] at k0; have k4 := H.c.c4; dsimp only [kR] at k4; have k2 := H.rd.c2)
    | (refine wpList_load_rc _ rfl (.tmp 5) rfl rfl H.c ?_))
  rw [hQ9] at k2
  clear hQ9
  have H0 := H.below ((Below.refl _ _).drew)
  clear H
  have H := H0
  clear H0
  refine wp_region_held_drew (S := fun W : World => W.cell? ⟨b4, 2, none⟩ = some (.int .i64 E9)) (by kernel_rfl) (by rw [hE9.out]; exact H.rd.c2) (fun hHeld => ?_)
  refine wpAnyH_take (i := 0) (oi := _) (v := ?_) rfl (by kernel_rfl) (by kernel_rfl) (by kernel_rfl) (fun _ _ _ h => h) (Or.inl ⟨by rfl, ?_⟩) hHeld ?_
  rotate_left
  · (intro w hSw; (try dsimp only at hSw); go_simp; (try with_reducible rfl))
  try simp only [Act.put, List.setIfInBounds_toArray, List.set_cons_zero, List.set_cons_succ, List.getElem_toArray, List.getElem_cons_succ, List.getElem_cons_zero]
  refine wpAnyH_take (i := 1) (oi := _) (v := ?_) rfl (by kernel_rfl) (by kernel_rfl) (by kernel_rfl) (fun _ _ _ h => h) (Or.inl ⟨by rfl, ?_⟩) hHeld ?_
  rotate_left
  · (intro w hSw; (try dsimp only at hSw); go_simp; (try with_reducible rfl))
  try simp only [Act.put, List.setIfInBounds_toArray, List.set_cons_zero, List.set_cons_succ, List.getElem_toArray, List.getElem_cons_succ, List.getElem_cons_zero]
  refine wpAnyH_take (i := 2) (oi := _) (v := ?_) rfl (by kernel_rfl) (by kernel_rfl) (by kernel_rfl) (fun _ _ _ h => h) (Or.inl ⟨by rfl, ?_⟩) hHeld ?_
  rotate_left
  · (intro w hSw; (try dsimp only at hSw); go_simp; (try with_reducible rfl))
  try simp only [Act.put, List.setIfInBounds_toArray, List.set_cons_zero, List.set_cons_succ, List.getElem_toArray, List.getElem_cons_succ, List.getElem_cons_zero]
  refine wpAnyH_take (i := 3) (oi := _) (v := ?_) rfl (by kernel_rfl) (by kernel_rfl) (by kernel_rfl) (fun _ _ _ h => h) (Or.inl ⟨by rfl, ?_⟩) hHeld ?_
  rotate_left
  · (intro w hSw; (try dsimp only at hSw); go_simp; (try with_reducible rfl))
  try simp only [Act.put, List.setIfInBounds_toArray, List.set_cons_zero, List.set_cons_succ, List.getElem_toArray, List.getElem_cons_succ, List.getElem_cons_zero]
  refine wpAnyH_take (i := 4) (oi := _) (v := ?_) rfl (by kernel_rfl) (by kernel_rfl) (by kernel_rfl) (fun _ _ _ h => h) (Or.inl ⟨by rfl, ?_⟩) hHeld ?_
  rotate_left
  · (intro w hSw; (try dsimp only at hSw); go_simp; (try with_reducible rfl))
  try simp only [Act.put, List.setIfInBounds_toArray, List.set_cons_zero, List.set_cons_succ, List.getElem_toArray, List.getElem_cons_succ, List.getElem_cons_zero]
  refine wpAnyH_ready (rs := [5]) (by kernel_rfl) (by simp) ?_
  refine AllReadyH.cons (o := _) rfl (fun K hK => ?_) AllReadyH.nil
  rw [if_pos (by rfl)]
  refine wp_put_rc (s' := zS) (I' := nilV) (T' := nilV) _ (.tmp 2) (.tmp 133) rfl rfl rfl H.r rfl rfl ?_
  intro w8 P8
  refine hK.out _ _ (by rw [hE9.out]; exact (H.rd.off P8.off (fun e => H.n2 e.symm)).c2) (fun hHeld => ?_)
  clear hK K
  try simp only [Act.put, List.setIfInBounds_toArray, List.set_cons_zero, List.set_cons_succ, List.getElem_toArray, List.getElem_cons_succ, List.getElem_cons_zero]
  refine wpAnyH_take (i := 6) (oi := _) (v := ?_) rfl (by kernel_rfl) (by kernel_rfl) (by kernel_rfl) (fun _ _ _ h => h) (Or.inl ⟨by rfl, ?_⟩) hHeld ?_
  rotate_left
  · (intro w hSw; (try dsimp only at hSw); go_simp; (try with_reducible rfl))
  try simp only [Act.put, List.setIfInBounds_toArray, List.set_cons_zero, List.set_cons_succ, List.getElem_toArray, List.getElem_cons_succ, List.getElem_cons_zero]
  refine wpAnyH_done (by kernel_rfl) ?_ _
  go_wp2
  refine bodyPost_ret (results_rc2 rfl _ _ rfl P8.rc) rfl ?_
  exact ⟨⟨_, rfl, ⟨nilV, nilV, rfl, SlI.nil _, SlT.nil _⟩⟩, H.bel.trans (P8.below H.l2 H.bel.size)⟩
set_option maxHeartbeats 2000000 in
theorem rof_o_g (ht : t.size ≤ 1000000) (hK : nN (t, 0) 1 = K) (hq : sN (t, 0) 1 = q) (hs : Small ⟨kR K, [], []⟩) (h1 : K ≠ 1) (h2 : K ≠ 2) (h3 : K ≠ 3) (h4 : K ≠ 4) (h5 : K ≠ 5) (h6 : K ≠ 6) (h7 : K ≠ 7) (h8 : K ≠ 8) (h9 : K ≠ 9) (h10 : K ≠ 10) (he : (q).2 = 0) (hE : bodyM (cleanM ⟨kR K, [], []⟩) = (t, 0)) : Calls Try.prog 19 #[.string t] w fun e w' => (∃ v, e = .returned (.tuple #[v, .int .i64 0]) ∧ RecV w' v ⟨kR K, [], []⟩) ∧ Below w.heap.size w w' := by
  have CN : Hid (∀ w1, Calls Try.prog 32 #[.pointer (some ⟨w1.heap.size, 0, none⟩), .int .i64 1] (w1.alloc (.cells #[.string t, .int .i64 0, .int .i64 0] 63)) fun r w' => r = .returned (.int .i64 K) ∧ RfS w' w1.heap.size q ∧ Below w1.heap.size w1 w') := fun w1 => by rw [← hK, ← hq]; exact rd_start (by omega) w1
  have CB : Hid (∀ wx v, RecV wx v ⟨kR K, [], []⟩ → Calls Try.prog 11 #[v] wx fun r w' => r = .returned (.tuple #[.string (bodyM (cleanM ⟨kR K, [], []⟩)).1, .int .i64 (bodyM (cleanM ⟨kR K, [], []⟩)).2]) ∧ Below wx.heap.size wx w') := fun wx v h => rbody_any h hs
  rw [hE] at CB
  dsimp only at CB
  have tt : (t.toList == t.toList) = true := by simp
  clear hE
  have e1 : (K == 1) = false := by simpa using h1
  have e2 : (K == 2) = false := by simpa using h2
  have e3 : (K == 3) = false := by simpa using h3
  have e4 : (K == 4) = false := by simpa using h4
  have e5 : (K == 5) = false := by simpa using h5
  have e6 : (K == 6) = false := by simpa using h6
  have e7 : (K == 7) = false := by simpa using h7
  have e8 : (K == 8) = false := by simpa using h8
  have e9 : (K == 9) = false := by simpa using h9
  have e10 : (K == 10) = false := by simpa using h10
  clear h1 h2 h3 h4 h5 h6 h7 h8 h9 h10 hs hK hq
  go_enter Try.func19, Try.ntmps19
  go_wp2_with (first
    | (have := N1; refine wpList_new_rc _ rfl rfl ?_; intro w4 b5 N2)
    | (refine wpList_new_rc _ rfl rfl ?_; intro w1 b2 N1)
    | (have := H; go_at_call 32; refine (H.num _ (by omega) (by omega)).mono ?_; clear H this; rintro e w6 ⟨rfl, H⟩; have k2 := H.rd.c2; have k0 := H.c.c0; dsimp only [kR] at k0)
    | (go_at_call 32; refine (CN.out _).mono ?_; clear CN; rintro e w3 ⟨rfl, hr, hb⟩)
    | (refine wpList_at (Op.store 25 (.tmp 5) (.tmp 19)) rfl ?_; refine wpList_put_rc (s' := kR K) (I' := nilV) (T' := nilV) _ rfl (.tmp 5) (.tmp 19) rfl rfl rfl N2.rc rfl rfl ?_; intro w5 P5; have H := DoS.start N1 hr hb N2 P5; clear N1 hr hb N2 P5 this; generalize w1.heap.size = b4 at *; have k0 := H.c.c0; dsimp only [kR] at k0; have k4 := H.c.c4; dsimp only [kR] at k4; have k2 := H.rd.c2)
    | (refine wpList_load_rc _ rfl (.tmp 5) rfl rfl H.c ?_)
    | (go_at_call 11; refine (CB.out _ _ ⟨_, _, rfl, SlI.nil _, SlT.nil _⟩).mono ?_; clear CB; rintro e w8 ⟨rfl, b8⟩; have H1 := H.below b8; clear H; have H := H1; clear H1)
    | (refine wpList_at (Op.store 25 (.tmp 2) (.tmp 151)) rfl ?_; refine wpList_put_rc (s' := kR K) (I' := nilV) (T' := nilV) _ rfl (.tmp 2) (.tmp 151) rfl rfl rfl H.r rfl rfl ?_; intro w9 P9))
  refine bodyPost_ret (results_rc2 rfl _ _ rfl P9.rc) rfl ?_
  exact ⟨⟨_, rfl, ⟨nilV, nilV, rfl, SlI.nil _, SlT.nil _⟩⟩, H.bel.trans (P9.below H.l2 H.bel.size)⟩
set_option maxHeartbeats 2000000 in
theorem rof_o_b (ht : t.size ≤ 1000000) (hK : nN (t, 0) 1 = K) (hq : sN (t, 0) 1 = q) (hs : Small ⟨kR K, [], []⟩) (h1 : K ≠ 1) (h2 : K ≠ 2) (h3 : K ≠ 3) (h4 : K ≠ 4) (h5 : K ≠ 5) (h6 : K ≠ 6) (h7 : K ≠ 7) (h8 : K ≠ 8) (h9 : K ≠ 9) (h10 : K ≠ 10) (he : (q).2 = 0) (hE : (bodyM (cleanM ⟨kR K, [], []⟩)).2 ≠ 0) : Calls Try.prog 19 #[.string t] w fun e w' => (∃ v, e = .returned (.tuple #[v, .int .i64 4]) ∧ RecV w' v zM) ∧ Below w.heap.size w w' := by
  have CN : Hid (∀ w1, Calls Try.prog 32 #[.pointer (some ⟨w1.heap.size, 0, none⟩), .int .i64 1] (w1.alloc (.cells #[.string t, .int .i64 0, .int .i64 0] 63)) fun r w' => r = .returned (.int .i64 K) ∧ RfS w' w1.heap.size q ∧ Below w1.heap.size w1 w') := fun w1 => by rw [← hK, ← hq]; exact rd_start (by omega) w1
  have CB : Hid (∀ wx v, RecV wx v ⟨kR K, [], []⟩ → Calls Try.prog 11 #[v] wx fun r w' => r = .returned (.tuple #[.string (bodyM (cleanM ⟨kR K, [], []⟩)).1, .int .i64 (bodyM (cleanM ⟨kR K, [], []⟩)).2]) ∧ Below wx.heap.size wx w') := fun wx v h => rbody_any h hs
  generalize (bodyM (cleanM ⟨kR K, [], []⟩)).1 = Z at *
  generalize (bodyM (cleanM ⟨kR K, [], []⟩)).2 = E at *
  have hE' : (E != 0) = true := by simpa using hE
  clear hE
  have e1 : (K == 1) = false := by simpa using h1
  have e2 : (K == 2) = false := by simpa using h2
  have e3 : (K == 3) = false := by simpa using h3
  have e4 : (K == 4) = false := by simpa using h4
  have e5 : (K == 5) = false := by simpa using h5
  have e6 : (K == 6) = false := by simpa using h6
  have e7 : (K == 7) = false := by simpa using h7
  have e8 : (K == 8) = false := by simpa using h8
  have e9 : (K == 9) = false := by simpa using h9
  have e10 : (K == 10) = false := by simpa using h10
  clear h1 h2 h3 h4 h5 h6 h7 h8 h9 h10 hs hK hq
  go_enter Try.func19, Try.ntmps19
  go_wp2_with (first
    | (have := N1; refine wpList_new_rc _ rfl rfl ?_; intro w4 b5 N2)
    | (refine wpList_new_rc _ rfl rfl ?_; intro w1 b2 N1)
    | (have := H; go_at_call 32; refine (H.num _ (by omega) (by omega)).mono ?_; clear H this; rintro e w6 ⟨rfl, H⟩; have k2 := H.rd.c2; have k0 := H.c.c0; dsimp only [kR] at k0)
    | (go_at_call 32; refine (CN.out _).mono ?_; clear CN; rintro e w3 ⟨rfl, hr, hb⟩)
    | (refine wpList_at (Op.store 25 (.tmp 5) (.tmp 19)) rfl ?_; refine wpList_put_rc (s' := kR K) (I' := nilV) (T' := nilV) _ rfl (.tmp 5) (.tmp 19) rfl rfl rfl N2.rc rfl rfl ?_; intro w5 P5; have H := DoS.start N1 hr hb N2 P5; clear N1 hr hb N2 P5 this; generalize w1.heap.size = b4 at *; have k0 := H.c.c0; dsimp only [kR] at k0; have k4 := H.c.c4; dsimp only [kR] at k4; have k2 := H.rd.c2)
    | (refine wpList_load_rc _ rfl (.tmp 5) rfl rfl H.c ?_)
    | (go_at_call 11; refine (CB.out _ _ ⟨_, _, rfl, SlI.nil _, SlT.nil _⟩).mono ?_; clear CB; rintro e w8 ⟨rfl, b8⟩; have H1 := H.below b8; clear H; have H := H1; clear H1)
    | (refine wpList_at (Op.store 25 (.tmp 2) (.tmp 150)) rfl ?_; refine wpList_put_rc (s' := zS) (I' := nilV) (T' := nilV) _ rfl (.tmp 2) (.tmp 150) rfl rfl rfl H.r rfl rfl ?_; intro w9 P9))
  refine bodyPost_ret (results_rc2 rfl _ _ rfl P9.rc) rfl ?_
  exact ⟨⟨_, rfl, ⟨nilV, nilV, rfl, SlI.nil _, SlT.nil _⟩⟩, H.bel.trans (P9.below H.l2 H.bel.size)⟩
set_option maxHeartbeats 2000000 in
theorem rof_o_z (ht : t.size ≤ 1000000) (hK : nN (t, 0) 1 = K) (hq : sN (t, 0) 1 = q) (hs : Small ⟨kR K, [], []⟩) (h1 : K ≠ 1) (h2 : K ≠ 2) (h3 : K ≠ 3) (h4 : K ≠ 4) (h5 : K ≠ 5) (h6 : K ≠ 6) (h7 : K ≠ 7) (h8 : K ≠ 8) (h9 : K ≠ 9) (h10 : K ≠ 10) (he : (q).2 = 0) (hE : (bodyM (cleanM ⟨kR K, [], []⟩)).2 = 0) (hZ : (bodyM (cleanM ⟨kR K, [], []⟩)).1 ≠ t) : Calls Try.prog 19 #[.string t] w fun e w' => (∃ v, e = .returned (.tuple #[v, .int .i64 4]) ∧ RecV w' v zM) ∧ Below w.heap.size w w' := by
  have CN : Hid (∀ w1, Calls Try.prog 32 #[.pointer (some ⟨w1.heap.size, 0, none⟩), .int .i64 1] (w1.alloc (.cells #[.string t, .int .i64 0, .int .i64 0] 63)) fun r w' => r = .returned (.int .i64 K) ∧ RfS w' w1.heap.size q ∧ Below w1.heap.size w1 w') := fun w1 => by rw [← hK, ← hq]; exact rd_start (by omega) w1
  have CB : Hid (∀ wx v, RecV wx v ⟨kR K, [], []⟩ → Calls Try.prog 11 #[v] wx fun r w' => r = .returned (.tuple #[.string (bodyM (cleanM ⟨kR K, [], []⟩)).1, .int .i64 (bodyM (cleanM ⟨kR K, [], []⟩)).2]) ∧ Below wx.heap.size wx w') := fun wx v h => rbody_any h hs
  rw [hE] at CB
  generalize (bodyM (cleanM ⟨kR K, [], []⟩)).1 = Z at *
  have hZ' : (Z.toList == t.toList) = false := toList_ne hZ
  clear hZ
  clear hE
  have e1 : (K == 1) = false := by simpa using h1
  have e2 : (K == 2) = false := by simpa using h2
  have e3 : (K == 3) = false := by simpa using h3
  have e4 : (K == 4) = false := by simpa using h4
  have e5 : (K == 5) = false := by simpa using h5
  have e6 : (K == 6) = false := by simpa using h6
  have e7 : (K == 7) = false := by simpa using h7
  have e8 : (K == 8) = false := by simpa using h8
  have e9 : (K == 9) = false := by simpa using h9
  have e10 : (K == 10) = false := by simpa using h10
  clear h1 h2 h3 h4 h5 h6 h7 h8 h9 h10 hs hK hq
  go_enter Try.func19, Try.ntmps19
  go_wp2_with (first
    | (have := N1; refine wpList_new_rc _ rfl rfl ?_; intro w4 b5 N2)
    | (refine wpList_new_rc _ rfl rfl ?_; intro w1 b2 N1)
    | (have := H; go_at_call 32; refine (H.num _ (by omega) (by omega)).mono ?_; clear H this; rintro e w6 ⟨rfl, H⟩; have k2 := H.rd.c2; have k0 := H.c.c0; dsimp only [kR] at k0)
    | (go_at_call 32; refine (CN.out _).mono ?_; clear CN; rintro e w3 ⟨rfl, hr, hb⟩)
    | (refine wpList_at (Op.store 25 (.tmp 5) (.tmp 19)) rfl ?_; refine wpList_put_rc (s' := kR K) (I' := nilV) (T' := nilV) _ rfl (.tmp 5) (.tmp 19) rfl rfl rfl N2.rc rfl rfl ?_; intro w5 P5; have H := DoS.start N1 hr hb N2 P5; clear N1 hr hb N2 P5 this; generalize w1.heap.size = b4 at *; have k0 := H.c.c0; dsimp only [kR] at k0; have k4 := H.c.c4; dsimp only [kR] at k4; have k2 := H.rd.c2)
    | (refine wpList_load_rc _ rfl (.tmp 5) rfl rfl H.c ?_)
    | (go_at_call 11; refine (CB.out _ _ ⟨_, _, rfl, SlI.nil _, SlT.nil _⟩).mono ?_; clear CB; rintro e w8 ⟨rfl, b8⟩; have H1 := H.below b8; clear H; have H := H1; clear H1)
    | (refine wpList_at (Op.store 25 (.tmp 2) (.tmp 150)) rfl ?_; refine wpList_put_rc (s' := zS) (I' := nilV) (T' := nilV) _ rfl (.tmp 2) (.tmp 150) rfl rfl rfl H.r rfl rfl ?_; intro w9 P9))
  refine bodyPost_ret (results_rc2 rfl _ _ rfl P9.rc) rfl ?_
  exact ⟨⟨_, rfl, ⟨nilV, nilV, rfl, SlI.nil _, SlT.nil _⟩⟩, H.bel.trans (P9.below H.l2 H.bel.size)⟩
end
end Go.Proofs.Ytakdfdnndogaiaa

namespace Go.Proofs.Ytakdfdnndogaiaa
open Go.RowKit
set_option linter.unusedVariables false
set_option linter.unusedSimpArgs false
set_option maxRecDepth 100000

/-- A field is laid, as an operation of its own. -/
theorem wp_fput {o : Oper} {a : Act} {K : Act → World → Prop} {Q : Exit → Act → World → Prop} {b k : Nat} {s s' : Sc} {I T I' T' v : Value} (w : World) (t : TypeId) (x y : Operand) (hop : o.op = Op.store t x y)
    (hx : a.eval x = .pointer (some ⟨b, k, none⟩)) (hy : a.eval y = v) (hs : RcAt w b s I T) (hk : k < 13) (h1 : v.oneCell' = true) (hi : (Try.prog.info? t).map (·.size) = some 1)
    (e : (s.A I T).setIfInBounds k v = s'.A I' T')
    (h : ∀ w', PutR w w' b s' I' T' → K (a.put o.dst undef) w') : o.wp Try.prog a w K Q := by
  have hc : ∃ u, w.cell? ⟨b, k, none⟩ = some u := by
    rw [cell_of_row w b _ _ 25 (0, 0) hs.blk]
    exact ⟨_, Array.getElem?_eq_getElem (by rw [rc_size]; exact hk)⟩
  obtain ⟨u, hu⟩ := hc
  have hf := hs.f k
  unfold Oper.wp
  have hrun : (Instr.storeAt t (.pointer (some ⟨b, k, none⟩)) v).run Try.prog w = .ok () (w.setCell ⟨b, k, none⟩ v) := by
    have hcs : v.cells = #[v] := by cases v <;> first | rfl | cases h1
    have g1 : ∀ j, j < [v].length → (w.cell? ⟨b, k + 0 + j, none⟩).isSome = true := by
      intro j hj
      obtain rfl : j = 0 := by simpa using hj
      simp [hu]
    have g2 : ∀ j, j < [v].length → w.frozen? ⟨b, k + 0 + j, none⟩ = false := by
      intro j hj
      obtain rfl : j = 0 := by simpa using hj
      simpa using hf
    have := run_storeCells_cells (P := Try.prog) b k [v] 0 w g1 g2 (fun x hx => by simp at hx; subst hx; exact h1)
    cases hq : Try.prog.info? t with
    | none => simp [hq] at hi
    | some i =>
      have hs : i.size = 1 := by simpa [hq] using hi
      simp only [Nat.add_zero] at this
      simp [Instr.storeAt, Instr.sureAddr, storeVar, sizeOf, typeInfo, hq, hcs, hs, this, World.setCells]
  simp [execOp, hop, hx, hy, hrun, Result.andThen]
  exact h _ ⟨hs.set e, (Pk.Off.refl _ _).setCell _ _⟩
theorem DoS.bel' {w wx wq : World} {b2 b5 b4 B : Nat} {s : Sc} {I T : Value} {q : Lf} (h : DoS w wx b2 b5 b4 s I T q) (hb : Below B wx wq) (h2 : b2 < B) (h5 : b5 < B) (h4 : b4 < B) (hw : w.heap.size ≤ B) : DoS w wq b2 b5 b4 s I T q := by
  refine ⟨⟨(hb.block b2 h2).trans h.r.blk⟩, ⟨(hb.block b5 h5).trans h.c.blk⟩, ?_, h.bel.trans (hb.mono hw), h.n1, h.n2, h.n3, h.l2, h.l5, h.l4⟩
  obtain ⟨s, a, e1, e2⟩ := h.rd.ex
  exact ⟨s, a, (hb.block b4 h4).trans e1, e2⟩
theorem DoS.text {w wx : World} {b2 b5 b4 : Nat} {s : Sc} {I T : Value} {q : Lf} (h : DoS w wx b2 b5 b4 s I T q) (m : Int) : Calls Try.prog 33 #[.pointer (some ⟨b4, 0, none⟩), .int .i64 m] wx fun r w' => r = .returned (.string (tT q m)) ∧ DoS w w' b2 b5 b4 s I T (sT q m) ∧ Pk.Off b4 wx w' :=
  (h.rd.text m).mono fun e w' ⟨he, h1, o1⟩ => ⟨he, h.step h1 o1, o1⟩
theorem DoS.numo {w wx : World} {b2 b5 b4 : Nat} {s : Sc} {I T : Value} {q : Lf} (h : DoS w wx b2 b5 b4 s I T q) (k : Int) (h1 : 1 ≤ k) (h6 : k ≤ 6) : Calls Try.prog 32 #[.pointer (some ⟨b4, 0, none⟩), .int .i64 k] wx fun r w' => r = .returned (.int .i64 (nN q k)) ∧ DoS w w' b2 b5 b4 s I T (sN q k) ∧ Pk.Off b4 wx w' :=
  (h.rd.num k h1 h6).mono fun e w' ⟨he, h1, o1⟩ => ⟨he, h.step h1 o1, o1⟩
section
variable {w : World} {t : ByteArray} {K : Int} {q : Lf}
end
end Go.Proofs.Ytakdfdnndogaiaa
