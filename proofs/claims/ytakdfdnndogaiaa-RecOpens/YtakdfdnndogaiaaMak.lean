/- The document's Clean. The document's Body, of any record. -/
import Derived.Test.YtakdfdnndogaiaaMaf
import Derived.Test.YtakdfdnndogaiaaMai
import Derived.Test.YtakdfdnndogaiaaMaj
namespace Go.Proofs.Ytakdfdnndogaiaa
open Go.RowKit
set_option linter.unusedVariables false
set_option linter.unusedSimpArgs false
set_option maxRecDepth 100000

section
variable {w : World} {s : Sc} {I T : Value}
set_option maxHeartbeats 1000000 in
theorem rclean_1 (hk : s.kd = 1) (hI : I.oneCell' = true) : Calls Try.prog 16 #[.agg (s.A I T)] w fun e w' => e = .returned (.agg ((kS s.kd : Sc).A I nilV)) ∧ Below w.heap.size w w' := by
  have e1 : (s.kd == 1) = true := by rw [hk]; rfl
  clear hk
  go_enter Try.func16, Try.ntmps16
  go_wp2_with (first
    | (refine wpList_box_rc (s := s) (I := _) (T := _) _ rfl _ rfl rfl ?_; intro w0 b0 N0)
    | (have := N1; refine wpList_new_rc _ rfl rfl ?_; intro w2 b2 N2; have k00 := ((N0.rc.below N1.below).below N2.below).c0)
    | (refine wpList_new_rc _ rfl rfl ?_; intro w1 b1 N1; have k00 := (N0.rc.below N1.below).c0)
    | (refine wpList_at (Op.store 25 (.tmp 3) (.tmp 7)) rfl ?_; refine wpList_put_rc (s' := kS s.kd) (I' := nilV) (T' := nilV) _ rfl (.tmp 3) (.tmp 7) rfl rfl rfl N2.rc rfl rfl ?_; intro w3 P3; have H := Cl3.mk' N0 N1 N2 P3; clear N0 N1 N2 P3 k00; have k00 := H.p.c0; have p9 := H.p.c9)
    | (refine wpList_at (Op.store 22 (.tmp 18) (.tmp 17)) rfl ?_; refine wpList_fput (s' := kS s.kd) (I' := I) (T' := nilV) _ rfl 22 (.tmp 18) (.tmp 17) rfl rfl rfl H.c (by omega) hI (by kernel_rfl) rfl ?_; intro w4 P4; have H4 := H.put P4.rc P4.off; clear H; have H := H4; clear H4 P4; have k00 := H.p.c0; have p9 := H.p.c9)
    | (refine wpList_load_rc _ rfl (.tmp 3) rfl rfl H.c ?_)
    | (refine wpList_at (Op.store 25 (.tmp 2) (.tmp 19)) rfl ?_; refine wpList_put_rc (s' := kS s.kd) (I' := I) (T' := nilV) _ rfl (.tmp 2) (.tmp 19) rfl rfl rfl H.r hI rfl ?_; intro w9 P9))
  obtain ⟨g1, g2⟩ := H.ret P9
  refine bodyPost_ret (results_rc1 rfl _ _ rfl g1) rfl ?_
  exact ⟨rfl, g2⟩
set_option maxHeartbeats 1000000 in
theorem rclean_2 (hk : s.kd = 2) (hI : I.oneCell' = true) : Calls Try.prog 16 #[.agg (s.A I T)] w fun e w' => e = .returned (.agg ((kS s.kd : Sc).A I nilV)) ∧ Below w.heap.size w w' := by
  have e1 : (s.kd == 1) = false := by rw [hk]; rfl
  have e2 : (s.kd == 2) = true := by rw [hk]; rfl
  clear hk
  go_enter Try.func16, Try.ntmps16
  go_wp2_with (first
    | (refine wpList_box_rc (s := s) (I := _) (T := _) _ rfl _ rfl rfl ?_; intro w0 b0 N0)
    | (have := N1; refine wpList_new_rc _ rfl rfl ?_; intro w2 b2 N2; have k00 := ((N0.rc.below N1.below).below N2.below).c0)
    | (refine wpList_new_rc _ rfl rfl ?_; intro w1 b1 N1; have k00 := (N0.rc.below N1.below).c0)
    | (refine wpList_at (Op.store 25 (.tmp 3) (.tmp 7)) rfl ?_; refine wpList_put_rc (s' := kS s.kd) (I' := nilV) (T' := nilV) _ rfl (.tmp 3) (.tmp 7) rfl rfl rfl N2.rc rfl rfl ?_; intro w3 P3; have H := Cl3.mk' N0 N1 N2 P3; clear N0 N1 N2 P3 k00; have k00 := H.p.c0; have p9 := H.p.c9)
    | (refine wpList_at (Op.store 22 (.tmp 18) (.tmp 17)) rfl ?_; refine wpList_fput (s' := kS s.kd) (I' := I) (T' := nilV) _ rfl 22 (.tmp 18) (.tmp 17) rfl rfl rfl H.c (by omega) hI (by kernel_rfl) rfl ?_; intro w4 P4; have H4 := H.put P4.rc P4.off; clear H; have H := H4; clear H4 P4; have k00 := H.p.c0; have p9 := H.p.c9)
    | (refine wpList_load_rc _ rfl (.tmp 3) rfl rfl H.c ?_)
    | (refine wpList_at (Op.store 25 (.tmp 2) (.tmp 19)) rfl ?_; refine wpList_put_rc (s' := kS s.kd) (I' := I) (T' := nilV) _ rfl (.tmp 2) (.tmp 19) rfl rfl rfl H.r hI rfl ?_; intro w9 P9))
  obtain ⟨g1, g2⟩ := H.ret P9
  refine bodyPost_ret (results_rc1 rfl _ _ rfl g1) rfl ?_
  exact ⟨rfl, g2⟩
set_option maxHeartbeats 1000000 in
theorem rclean_9 (hk : s.kd = 9) (hT : T.oneCell' = true) : Calls Try.prog 16 #[.agg (s.A I T)] w fun e w' => e = .returned (.agg ((kS s.kd : Sc).A nilV T)) ∧ Below w.heap.size w w' := by
  have e1 : (s.kd == 1) = false := by rw [hk]; rfl
  have e2 : (s.kd == 2) = false := by rw [hk]; rfl
  have e9 : (s.kd == 9) = true := by rw [hk]; rfl
  clear hk
  go_enter Try.func16, Try.ntmps16
  go_wp2_with (first
    | (refine wpList_box_rc (s := s) (I := _) (T := _) _ rfl _ rfl rfl ?_; intro w0 b0 N0)
    | (have := N1; refine wpList_new_rc _ rfl rfl ?_; intro w2 b2 N2; have k00 := ((N0.rc.below N1.below).below N2.below).c0)
    | (refine wpList_new_rc _ rfl rfl ?_; intro w1 b1 N1; have k00 := (N0.rc.below N1.below).c0)
    | (refine wpList_at (Op.store 25 (.tmp 3) (.tmp 7)) rfl ?_; refine wpList_put_rc (s' := kS s.kd) (I' := nilV) (T' := nilV) _ rfl (.tmp 3) (.tmp 7) rfl rfl rfl N2.rc rfl rfl ?_; intro w3 P3; have H := Cl3.mk' N0 N1 N2 P3; clear N0 N1 N2 P3 k00; have k00 := H.p.c0; have p10 := H.p.c10)
    | (refine wpList_at (Op.store 23 (.tmp 24) (.tmp 23)) rfl ?_; refine wpList_fput (s' := kS s.kd) (I' := nilV) (T' := T) _ rfl 23 (.tmp 24) (.tmp 23) rfl rfl rfl H.c (by omega) hT (by kernel_rfl) rfl ?_; intro w4 P4; have H4 := H.put P4.rc P4.off; clear H; have H := H4; clear H4 P4; have k00 := H.p.c0; have p10 := H.p.c10)
    | (refine wpList_load_rc _ rfl (.tmp 3) rfl rfl H.c ?_)
    | (refine wpList_at (Op.store 25 (.tmp 2) (.tmp 25)) rfl ?_; refine wpList_put_rc (s' := kS s.kd) (I' := nilV) (T' := T) _ rfl (.tmp 2) (.tmp 25) rfl rfl rfl H.r rfl hT ?_; intro w9 P9))
  obtain ⟨g1, g2⟩ := H.ret P9
  refine bodyPost_ret (results_rc1 rfl _ _ rfl g1) rfl ?_
  exact ⟨rfl, g2⟩
set_option maxHeartbeats 1000000 in
theorem rclean_10 (hk : s.kd = 10) : Calls Try.prog 16 #[.agg (s.A I T)] w fun e w' => e = .returned (.agg (({kS s.kd with ep := s.ep, nd := s.nd} : Sc).A nilV nilV)) ∧ Below w.heap.size w w' := by
  have e1 : (s.kd == 1) = false := by rw [hk]; rfl
  have e2 : (s.kd == 2) = false := by rw [hk]; rfl
  have e9 : (s.kd == 9) = false := by rw [hk]; rfl
  have e10 : (s.kd == 10) = true := by rw [hk]; rfl
  clear hk
  go_enter Try.func16, Try.ntmps16
  go_wp2_with (first
    | (refine wpList_box_rc (s := s) (I := _) (T := _) _ rfl _ rfl rfl ?_; intro w0 b0 N0)
    | (have := N1; refine wpList_new_rc _ rfl rfl ?_; intro w2 b2 N2; have k00 := ((N0.rc.below N1.below).below N2.below).c0)
    | (refine wpList_new_rc _ rfl rfl ?_; intro w1 b1 N1; have k00 := (N0.rc.below N1.below).c0)
    | (refine wpList_at (Op.store 25 (.tmp 3) (.tmp 7)) rfl ?_; refine wpList_put_rc (s' := kS s.kd) (I' := nilV) (T' := nilV) _ rfl (.tmp 3) (.tmp 7) rfl rfl rfl N2.rc rfl rfl ?_; intro w3 P3; have H := Cl3.mk' N0 N1 N2 P3; clear N0 N1 N2 P3 k00; have k00 := H.p.c0; have p11 := H.p.c11; have p12 := H.p.c12)
    | (refine wpList_at (Op.store 3 (.tmp 30) (.tmp 29)) rfl ?_; refine wpList_fput (s' := {kS s.kd with ep := s.ep}) (I' := nilV) (T' := nilV) _ rfl 3 (.tmp 30) (.tmp 29) rfl rfl rfl H.c (by omega) rfl (by kernel_rfl) rfl ?_; intro w4 P4; have H4 := H.put P4.rc P4.off; clear H; have H := H4; clear H4 P4; have k00 := H.p.c0; have p11 := H.p.c11; have p12 := H.p.c12)
    | (refine wpList_at (Op.store 3 (.tmp 33) (.tmp 32)) rfl ?_; refine wpList_fput (s' := {kS s.kd with ep := s.ep, nd := s.nd}) (I' := nilV) (T' := nilV) _ rfl 3 (.tmp 33) (.tmp 32) rfl rfl rfl H.c (by omega) rfl (by kernel_rfl) rfl ?_; intro w4 P4; have H4 := H.put P4.rc P4.off; clear H; have H := H4; clear H4 P4; have k00 := H.p.c0; have p11 := H.p.c11; have p12 := H.p.c12)
    | (refine wpList_load_rc _ rfl (.tmp 3) rfl rfl H.c ?_)
    | (refine wpList_at (Op.store 25 (.tmp 2) (.tmp 34)) rfl ?_; refine wpList_put_rc (s' := {kS s.kd with ep := s.ep, nd := s.nd}) (I' := nilV) (T' := nilV) _ rfl (.tmp 2) (.tmp 34) rfl rfl rfl H.r rfl rfl ?_; intro w9 P9))
  obtain ⟨g1, g2⟩ := H.ret P9
  refine bodyPost_ret (results_rc1 rfl _ _ rfl g1) rfl ?_
  exact ⟨rfl, g2⟩
set_option maxHeartbeats 1000000 in
theorem rclean_7 (hk : s.kd = 7) : Calls Try.prog 16 #[.agg (s.A I T)] w fun e w' => e = .returned (.agg (({kS s.kd with tx := s.tx, pv := s.pv} : Sc).A nilV nilV)) ∧ Below w.heap.size w w' := by
  have e1 : (s.kd == 1) = false := by rw [hk]; rfl
  have e2 : (s.kd == 2) = false := by rw [hk]; rfl
  have e9 : (s.kd == 9) = false := by rw [hk]; rfl
  have e10 : (s.kd == 10) = false := by rw [hk]; rfl
  have e6 : (s.kd == 6) = false := by rw [hk]; rfl
  have e3 : (s.kd == 3) = false := by rw [hk]; rfl
  have e4 : (s.kd == 4) = false := by rw [hk]; rfl
  have e5 : (s.kd == 5) = false := by rw [hk]; rfl
  have e7 : (s.kd == 7) = true := by rw [hk]; rfl
  clear hk
  go_enter Try.func16, Try.ntmps16
  go_wp2_with (first
    | (refine wpList_box_rc (s := s) (I := _) (T := _) _ rfl _ rfl rfl ?_; intro w0 b0 N0)
    | (have := N1; refine wpList_new_rc _ rfl rfl ?_; intro w2 b2 N2; have k00 := ((N0.rc.below N1.below).below N2.below).c0)
    | (refine wpList_new_rc _ rfl rfl ?_; intro w1 b1 N1; have k00 := (N0.rc.below N1.below).c0)
    | (refine wpList_at (Op.store 25 (.tmp 3) (.tmp 7)) rfl ?_; refine wpList_put_rc (s' := kS s.kd) (I' := nilV) (T' := nilV) _ rfl (.tmp 3) (.tmp 7) rfl rfl rfl N2.rc rfl rfl ?_; intro w3 P3; have H := Cl3.mk' N0 N1 N2 P3; clear N0 N1 N2 P3 k00; have k00 := H.p.c0; have p1 := H.p.c1; have p2 := H.p.c2)
    | (refine wpList_at (Op.store 3 (.tmp 55) (.tmp 54)) rfl ?_; refine wpList_fput (s' := {kS s.kd with tx := s.tx}) (I' := nilV) (T' := nilV) _ rfl 3 (.tmp 55) (.tmp 54) rfl rfl rfl H.c (by omega) rfl (by kernel_rfl) rfl ?_; intro w4 P4; have H4 := H.put P4.rc P4.off; clear H; have H := H4; clear H4 P4; have k00 := H.p.c0; have p1 := H.p.c1; have p2 := H.p.c2)
    | (refine wpList_at (Op.store 3 (.tmp 58) (.tmp 57)) rfl ?_; refine wpList_fput (s' := {kS s.kd with tx := s.tx, pv := s.pv}) (I' := nilV) (T' := nilV) _ rfl 3 (.tmp 58) (.tmp 57) rfl rfl rfl H.c (by omega) rfl (by kernel_rfl) rfl ?_; intro w4 P4; have H4 := H.put P4.rc P4.off; clear H; have H := H4; clear H4 P4; have k00 := H.p.c0; have p1 := H.p.c1; have p2 := H.p.c2)
    | (refine wpList_load_rc _ rfl (.tmp 3) rfl rfl H.c ?_)
    | (refine wpList_at (Op.store 25 (.tmp 2) (.tmp 67)) rfl ?_; refine wpList_put_rc (s' := {kS s.kd with tx := s.tx, pv := s.pv}) (I' := nilV) (T' := nilV) _ rfl (.tmp 2) (.tmp 67) rfl rfl rfl H.r rfl rfl ?_; intro w9 P9))
  obtain ⟨g1, g2⟩ := H.ret P9
  refine bodyPost_ret (results_rc1 rfl _ _ rfl g1) rfl ?_
  exact ⟨rfl, g2⟩
set_option maxHeartbeats 1000000 in
theorem rclean_8 (hk : s.kd = 8) : Calls Try.prog 16 #[.agg (s.A I T)] w fun e w' => e = .returned (.agg (({kS s.kd with tx := s.tx, pv := s.pv} : Sc).A nilV nilV)) ∧ Below w.heap.size w w' := by
  have e1 : (s.kd == 1) = false := by rw [hk]; rfl
  have e2 : (s.kd == 2) = false := by rw [hk]; rfl
  have e9 : (s.kd == 9) = false := by rw [hk]; rfl
  have e10 : (s.kd == 10) = false := by rw [hk]; rfl
  have e6 : (s.kd == 6) = false := by rw [hk]; rfl
  have e3 : (s.kd == 3) = false := by rw [hk]; rfl
  have e4 : (s.kd == 4) = false := by rw [hk]; rfl
  have e5 : (s.kd == 5) = false := by rw [hk]; rfl
  have e7 : (s.kd == 7) = false := by rw [hk]; rfl
  have e8 : (s.kd == 8) = true := by rw [hk]; rfl
  clear hk
  go_enter Try.func16, Try.ntmps16
  go_wp2_with (first
    | (refine wpList_box_rc (s := s) (I := _) (T := _) _ rfl _ rfl rfl ?_; intro w0 b0 N0)
    | (have := N1; refine wpList_new_rc _ rfl rfl ?_; intro w2 b2 N2; have k00 := ((N0.rc.below N1.below).below N2.below).c0)
    | (refine wpList_new_rc _ rfl rfl ?_; intro w1 b1 N1; have k00 := (N0.rc.below N1.below).c0)
    | (refine wpList_at (Op.store 25 (.tmp 3) (.tmp 7)) rfl ?_; refine wpList_put_rc (s' := kS s.kd) (I' := nilV) (T' := nilV) _ rfl (.tmp 3) (.tmp 7) rfl rfl rfl N2.rc rfl rfl ?_; intro w3 P3; have H := Cl3.mk' N0 N1 N2 P3; clear N0 N1 N2 P3 k00; have k00 := H.p.c0; have p1 := H.p.c1; have p2 := H.p.c2)
    | (refine wpList_at (Op.store 3 (.tmp 55) (.tmp 54)) rfl ?_; refine wpList_fput (s' := {kS s.kd with tx := s.tx}) (I' := nilV) (T' := nilV) _ rfl 3 (.tmp 55) (.tmp 54) rfl rfl rfl H.c (by omega) rfl (by kernel_rfl) rfl ?_; intro w4 P4; have H4 := H.put P4.rc P4.off; clear H; have H := H4; clear H4 P4; have k00 := H.p.c0; have p1 := H.p.c1; have p2 := H.p.c2)
    | (refine wpList_at (Op.store 3 (.tmp 58) (.tmp 57)) rfl ?_; refine wpList_fput (s' := {kS s.kd with tx := s.tx, pv := s.pv}) (I' := nilV) (T' := nilV) _ rfl 3 (.tmp 58) (.tmp 57) rfl rfl rfl H.c (by omega) rfl (by kernel_rfl) rfl ?_; intro w4 P4; have H4 := H.put P4.rc P4.off; clear H; have H := H4; clear H4 P4; have k00 := H.p.c0; have p1 := H.p.c1; have p2 := H.p.c2)
    | (refine wpList_load_rc _ rfl (.tmp 3) rfl rfl H.c ?_)
    | (refine wpList_at (Op.store 25 (.tmp 2) (.tmp 67)) rfl ?_; refine wpList_put_rc (s' := {kS s.kd with tx := s.tx, pv := s.pv}) (I' := nilV) (T' := nilV) _ rfl (.tmp 2) (.tmp 67) rfl rfl rfl H.r rfl rfl ?_; intro w9 P9))
  obtain ⟨g1, g2⟩ := H.ret P9
  refine bodyPost_ret (results_rc1 rfl _ _ rfl g1) rfl ?_
  exact ⟨rfl, g2⟩
set_option maxHeartbeats 1000000 in
theorem rclean_o (h1 : s.kd ≠ 1) (h2 : s.kd ≠ 2) (h3 : s.kd ≠ 3) (h4 : s.kd ≠ 4) (h5 : s.kd ≠ 5) (h6 : s.kd ≠ 6) (h7 : s.kd ≠ 7) (h8 : s.kd ≠ 8) (h9 : s.kd ≠ 9) (h10 : s.kd ≠ 10) : Calls Try.prog 16 #[.agg (s.A I T)] w fun e w' => e = .returned (.agg ((kS s.kd : Sc).A nilV nilV)) ∧ Below w.heap.size w w' := by
  have e1 : (s.kd == 1) = false := by simpa using h1
  have e2 : (s.kd == 2) = false := by simpa using h2
  have e9 : (s.kd == 9) = false := by simpa using h9
  have e10 : (s.kd == 10) = false := by simpa using h10
  have e6 : (s.kd == 6) = false := by simpa using h6
  have e3 : (s.kd == 3) = false := by simpa using h3
  have e4 : (s.kd == 4) = false := by simpa using h4
  have e5 : (s.kd == 5) = false := by simpa using h5
  have e7 : (s.kd == 7) = false := by simpa using h7
  have e8 : (s.kd == 8) = false := by simpa using h8
  clear h1 h2 h3 h4 h5 h6 h7 h8 h9 h10
  go_enter Try.func16, Try.ntmps16
  go_wp2_with (first
    | (refine wpList_box_rc (s := s) (I := _) (T := _) _ rfl _ rfl rfl ?_; intro w0 b0 N0)
    | (have := N1; refine wpList_new_rc _ rfl rfl ?_; intro w2 b2 N2; have k00 := ((N0.rc.below N1.below).below N2.below).c0)
    | (refine wpList_new_rc _ rfl rfl ?_; intro w1 b1 N1; have k00 := (N0.rc.below N1.below).c0)
    | (refine wpList_at (Op.store 25 (.tmp 3) (.tmp 7)) rfl ?_; refine wpList_put_rc (s' := kS s.kd) (I' := nilV) (T' := nilV) _ rfl (.tmp 3) (.tmp 7) rfl rfl rfl N2.rc rfl rfl ?_; intro w3 P3; have H := Cl3.mk' N0 N1 N2 P3; clear N0 N1 N2 P3 k00; have k00 := H.p.c0)
    | (refine wpList_load_rc _ rfl (.tmp 3) rfl rfl H.c ?_)
    | (refine wpList_at (Op.store 25 (.tmp 2) (.tmp 12)) rfl ?_; refine wpList_put_rc (s' := kS s.kd) (I' := nilV) (T' := nilV) _ rfl (.tmp 2) (.tmp 12) rfl rfl rfl H.r rfl rfl ?_; intro w9 P9))
  obtain ⟨g1, g2⟩ := H.ret P9
  refine bodyPost_ret (results_rc1 rfl _ _ rfl g1) rfl ?_
  exact ⟨rfl, g2⟩
set_option maxHeartbeats 1000000 in
theorem rclean_3 (hk : s.kd = 3) : Calls Try.prog 16 #[.agg (s.A I T)] w fun e w' => e = .returned (.agg (({kS s.kd with tx := s.tx, pv := s.pv, pg := s.pg, ky := s.ky, nw := s.nw} : Sc).A nilV nilV)) ∧ Below w.heap.size w w' := by
  have e1 : (s.kd == 1) = false := by rw [hk]; rfl
  have e2 : (s.kd == 2) = false := by rw [hk]; rfl
  have e9 : (s.kd == 9) = false := by rw [hk]; rfl
  have e10 : (s.kd == 10) = false := by rw [hk]; rfl
  have e6 : (s.kd == 6) = false := by rw [hk]; rfl
  have e3 : (s.kd == 3) = true := by rw [hk]; rfl
  have e4 : (s.kd == 4) = false := by rw [hk]; rfl
  have e5 : (s.kd == 5) = false := by rw [hk]; rfl
  have e7 : (s.kd == 7) = false := by rw [hk]; rfl
  have e8 : (s.kd == 8) = false := by rw [hk]; rfl
  have n3 : (s.kd != 3) = false := by rw [hk]; rfl
  have n4 : (s.kd != 4) = true := by rw [hk]; rfl
  clear hk
  go_enter Try.func16, Try.ntmps16
  go_wp2_with (first
    | (refine wpList_box_rc (s := s) (I := _) (T := _) _ rfl _ rfl rfl ?_; intro w0 b0 N0)
    | (have := N1; refine wpList_new_rc _ rfl rfl ?_; intro w2 b2 N2; have k00 := ((N0.rc.below N1.below).below N2.below).c0)
    | (refine wpList_new_rc _ rfl rfl ?_; intro w1 b1 N1; have k00 := (N0.rc.below N1.below).c0)
    | (refine wpList_at (Op.store 25 (.tmp 3) (.tmp 7)) rfl ?_; refine wpList_put_rc (s' := kS s.kd) (I' := nilV) (T' := nilV) _ rfl (.tmp 3) (.tmp 7) rfl rfl rfl N2.rc rfl rfl ?_; intro w3 P3; have H := Cl3.mk' N0 N1 N2 P3; clear N0 N1 N2 P3 k00; have k00 := H.p.c0; have p1 := H.p.c1; have p2 := H.p.c2; have p3 := H.p.c3; have p5 := H.p.c5; have p6 := H.p.c6; have p7 := H.p.c7)
    | (refine wpList_at (Op.store 3 (.tmp 55) (.tmp 54)) rfl ?_; refine wpList_fput (s' := {kS s.kd with tx := s.tx}) (I' := nilV) (T' := nilV) _ rfl 3 (.tmp 55) (.tmp 54) rfl rfl rfl H.c (by omega) rfl (by kernel_rfl) rfl ?_; intro w4 P4; have H4 := H.put P4.rc P4.off; clear H; have H := H4; clear H4 P4; have k00 := H.p.c0; have p1 := H.p.c1; have p2 := H.p.c2; have p3 := H.p.c3; have p5 := H.p.c5; have p6 := H.p.c6; have p7 := H.p.c7)
    | (refine wpList_at (Op.store 3 (.tmp 58) (.tmp 57)) rfl ?_; refine wpList_fput (s' := {kS s.kd with tx := s.tx, pv := s.pv}) (I' := nilV) (T' := nilV) _ rfl 3 (.tmp 58) (.tmp 57) rfl rfl rfl H.c (by omega) rfl (by kernel_rfl) rfl ?_; intro w4 P4; have H4 := H.put P4.rc P4.off; clear H; have H := H4; clear H4 P4; have k00 := H.p.c0; have p1 := H.p.c1; have p2 := H.p.c2; have p3 := H.p.c3; have p5 := H.p.c5; have p6 := H.p.c6; have p7 := H.p.c7)
    | (refine wpList_at (Op.store 3 (.tmp 70) (.tmp 69)) rfl ?_; refine wpList_fput (s' := {kS s.kd with tx := s.tx, pv := s.pv, pg := s.pg}) (I' := nilV) (T' := nilV) _ rfl 3 (.tmp 70) (.tmp 69) rfl rfl rfl H.c (by omega) rfl (by kernel_rfl) rfl ?_; intro w4 P4; have H4 := H.put P4.rc P4.off; clear H; have H := H4; clear H4 P4; have k00 := H.p.c0; have p1 := H.p.c1; have p2 := H.p.c2; have p3 := H.p.c3; have p5 := H.p.c5; have p6 := H.p.c6; have p7 := H.p.c7)
    | (refine wpList_at (Op.store 9 (.tmp 73) (.tmp 72)) rfl ?_; refine wpList_fput (s' := {kS s.kd with tx := s.tx, pv := s.pv, pg := s.pg, ky := s.ky}) (I' := nilV) (T' := nilV) _ rfl 9 (.tmp 73) (.tmp 72) rfl rfl rfl H.c (by omega) rfl (by kernel_rfl) rfl ?_; intro w4 P4; have H4 := H.put P4.rc P4.off; clear H; have H := H4; clear H4 P4; have k00 := H.p.c0; have p1 := H.p.c1; have p2 := H.p.c2; have p3 := H.p.c3; have p5 := H.p.c5; have p6 := H.p.c6; have p7 := H.p.c7)
    | (refine wpList_at (Op.store 9 (.tmp 83) (.tmp 82)) rfl ?_; refine wpList_fput (s' := {kS s.kd with tx := s.tx, pv := s.pv, pg := s.pg, ky := s.ky, nw := s.nw}) (I' := nilV) (T' := nilV) _ rfl 9 (.tmp 83) (.tmp 82) rfl rfl rfl H.c (by omega) rfl (by kernel_rfl) rfl ?_; intro w4 P4; have H4 := H.put P4.rc P4.off; clear H; have H := H4; clear H4 P4; have k00 := H.p.c0; have p1 := H.p.c1; have p2 := H.p.c2; have p3 := H.p.c3; have p5 := H.p.c5; have p6 := H.p.c6; have p7 := H.p.c7)
    | (refine wpList_load_rc _ rfl (.tmp 3) rfl rfl H.c ?_)
    | (refine wpList_at (Op.store 25 (.tmp 2) (.tmp 84)) rfl ?_; refine wpList_put_rc (s' := {kS s.kd with tx := s.tx, pv := s.pv, pg := s.pg, ky := s.ky, nw := s.nw}) (I' := nilV) (T' := nilV) _ rfl (.tmp 2) (.tmp 84) rfl rfl rfl H.r rfl rfl ?_; intro w9 P9))
  obtain ⟨g1, g2⟩ := H.ret P9
  refine bodyPost_ret (results_rc1 rfl _ _ rfl g1) rfl ?_
  exact ⟨rfl, g2⟩
set_option maxHeartbeats 1000000 in
theorem rclean_4 (hk : s.kd = 4) : Calls Try.prog 16 #[.agg (s.A I T)] w fun e w' => e = .returned (.agg (({kS s.kd with tx := s.tx, pv := s.pv, pg := s.pg, ky := s.ky, ol := s.ol} : Sc).A nilV nilV)) ∧ Below w.heap.size w w' := by
  have e1 : (s.kd == 1) = false := by rw [hk]; rfl
  have e2 : (s.kd == 2) = false := by rw [hk]; rfl
  have e9 : (s.kd == 9) = false := by rw [hk]; rfl
  have e10 : (s.kd == 10) = false := by rw [hk]; rfl
  have e6 : (s.kd == 6) = false := by rw [hk]; rfl
  have e3 : (s.kd == 3) = false := by rw [hk]; rfl
  have e4 : (s.kd == 4) = true := by rw [hk]; rfl
  have e5 : (s.kd == 5) = false := by rw [hk]; rfl
  have e7 : (s.kd == 7) = false := by rw [hk]; rfl
  have e8 : (s.kd == 8) = false := by rw [hk]; rfl
  have n3 : (s.kd != 3) = true := by rw [hk]; rfl
  have n4 : (s.kd != 4) = false := by rw [hk]; rfl
  clear hk
  go_enter Try.func16, Try.ntmps16
  go_wp2_with (first
    | (refine wpList_box_rc (s := s) (I := _) (T := _) _ rfl _ rfl rfl ?_; intro w0 b0 N0)
    | (have := N1; refine wpList_new_rc _ rfl rfl ?_; intro w2 b2 N2; have k00 := ((N0.rc.below N1.below).below N2.below).c0)
    | (refine wpList_new_rc _ rfl rfl ?_; intro w1 b1 N1; have k00 := (N0.rc.below N1.below).c0)
    | (refine wpList_at (Op.store 25 (.tmp 3) (.tmp 7)) rfl ?_; refine wpList_put_rc (s' := kS s.kd) (I' := nilV) (T' := nilV) _ rfl (.tmp 3) (.tmp 7) rfl rfl rfl N2.rc rfl rfl ?_; intro w3 P3; have H := Cl3.mk' N0 N1 N2 P3; clear N0 N1 N2 P3 k00; have k00 := H.p.c0; have p1 := H.p.c1; have p2 := H.p.c2; have p3 := H.p.c3; have p5 := H.p.c5; have p6 := H.p.c6; have p7 := H.p.c7)
    | (refine wpList_at (Op.store 3 (.tmp 55) (.tmp 54)) rfl ?_; refine wpList_fput (s' := {kS s.kd with tx := s.tx}) (I' := nilV) (T' := nilV) _ rfl 3 (.tmp 55) (.tmp 54) rfl rfl rfl H.c (by omega) rfl (by kernel_rfl) rfl ?_; intro w4 P4; have H4 := H.put P4.rc P4.off; clear H; have H := H4; clear H4 P4; have k00 := H.p.c0; have p1 := H.p.c1; have p2 := H.p.c2; have p3 := H.p.c3; have p5 := H.p.c5; have p6 := H.p.c6; have p7 := H.p.c7)
    | (refine wpList_at (Op.store 3 (.tmp 58) (.tmp 57)) rfl ?_; refine wpList_fput (s' := {kS s.kd with tx := s.tx, pv := s.pv}) (I' := nilV) (T' := nilV) _ rfl 3 (.tmp 58) (.tmp 57) rfl rfl rfl H.c (by omega) rfl (by kernel_rfl) rfl ?_; intro w4 P4; have H4 := H.put P4.rc P4.off; clear H; have H := H4; clear H4 P4; have k00 := H.p.c0; have p1 := H.p.c1; have p2 := H.p.c2; have p3 := H.p.c3; have p5 := H.p.c5; have p6 := H.p.c6; have p7 := H.p.c7)
    | (refine wpList_at (Op.store 3 (.tmp 70) (.tmp 69)) rfl ?_; refine wpList_fput (s' := {kS s.kd with tx := s.tx, pv := s.pv, pg := s.pg}) (I' := nilV) (T' := nilV) _ rfl 3 (.tmp 70) (.tmp 69) rfl rfl rfl H.c (by omega) rfl (by kernel_rfl) rfl ?_; intro w4 P4; have H4 := H.put P4.rc P4.off; clear H; have H := H4; clear H4 P4; have k00 := H.p.c0; have p1 := H.p.c1; have p2 := H.p.c2; have p3 := H.p.c3; have p5 := H.p.c5; have p6 := H.p.c6; have p7 := H.p.c7)
    | (refine wpList_at (Op.store 9 (.tmp 73) (.tmp 72)) rfl ?_; refine wpList_fput (s' := {kS s.kd with tx := s.tx, pv := s.pv, pg := s.pg, ky := s.ky}) (I' := nilV) (T' := nilV) _ rfl 9 (.tmp 73) (.tmp 72) rfl rfl rfl H.c (by omega) rfl (by kernel_rfl) rfl ?_; intro w4 P4; have H4 := H.put P4.rc P4.off; clear H; have H := H4; clear H4 P4; have k00 := H.p.c0; have p1 := H.p.c1; have p2 := H.p.c2; have p3 := H.p.c3; have p5 := H.p.c5; have p6 := H.p.c6; have p7 := H.p.c7)
    | (refine wpList_at (Op.store 9 (.tmp 78) (.tmp 77)) rfl ?_; refine wpList_fput (s' := {kS s.kd with tx := s.tx, pv := s.pv, pg := s.pg, ky := s.ky, ol := s.ol}) (I' := nilV) (T' := nilV) _ rfl 9 (.tmp 78) (.tmp 77) rfl rfl rfl H.c (by omega) rfl (by kernel_rfl) rfl ?_; intro w4 P4; have H4 := H.put P4.rc P4.off; clear H; have H := H4; clear H4 P4; have k00 := H.p.c0; have p1 := H.p.c1; have p2 := H.p.c2; have p3 := H.p.c3; have p5 := H.p.c5; have p6 := H.p.c6; have p7 := H.p.c7)
    | (refine wpList_load_rc _ rfl (.tmp 3) rfl rfl H.c ?_)
    | (refine wpList_at (Op.store 25 (.tmp 2) (.tmp 84)) rfl ?_; refine wpList_put_rc (s' := {kS s.kd with tx := s.tx, pv := s.pv, pg := s.pg, ky := s.ky, ol := s.ol}) (I' := nilV) (T' := nilV) _ rfl (.tmp 2) (.tmp 84) rfl rfl rfl H.r rfl rfl ?_; intro w9 P9))
  obtain ⟨g1, g2⟩ := H.ret P9
  refine bodyPost_ret (results_rc1 rfl _ _ rfl g1) rfl ?_
  exact ⟨rfl, g2⟩
set_option maxHeartbeats 1000000 in
theorem rclean_5 (hk : s.kd = 5) : Calls Try.prog 16 #[.agg (s.A I T)] w fun e w' => e = .returned (.agg (({kS s.kd with tx := s.tx, pv := s.pv, pg := s.pg, ky := s.ky, ol := s.ol, nw := s.nw} : Sc).A nilV nilV)) ∧ Below w.heap.size w w' := by
  have e1 : (s.kd == 1) = false := by rw [hk]; rfl
  have e2 : (s.kd == 2) = false := by rw [hk]; rfl
  have e9 : (s.kd == 9) = false := by rw [hk]; rfl
  have e10 : (s.kd == 10) = false := by rw [hk]; rfl
  have e6 : (s.kd == 6) = false := by rw [hk]; rfl
  have e3 : (s.kd == 3) = false := by rw [hk]; rfl
  have e4 : (s.kd == 4) = false := by rw [hk]; rfl
  have e5 : (s.kd == 5) = true := by rw [hk]; rfl
  have e7 : (s.kd == 7) = false := by rw [hk]; rfl
  have e8 : (s.kd == 8) = false := by rw [hk]; rfl
  have n3 : (s.kd != 3) = true := by rw [hk]; rfl
  have n4 : (s.kd != 4) = true := by rw [hk]; rfl
  clear hk
  go_enter Try.func16, Try.ntmps16
  go_wp2_with (first
    | (refine wpList_box_rc (s := s) (I := _) (T := _) _ rfl _ rfl rfl ?_; intro w0 b0 N0)
    | (have := N1; refine wpList_new_rc _ rfl rfl ?_; intro w2 b2 N2; have k00 := ((N0.rc.below N1.below).below N2.below).c0)
    | (refine wpList_new_rc _ rfl rfl ?_; intro w1 b1 N1; have k00 := (N0.rc.below N1.below).c0)
    | (refine wpList_at (Op.store 25 (.tmp 3) (.tmp 7)) rfl ?_; refine wpList_put_rc (s' := kS s.kd) (I' := nilV) (T' := nilV) _ rfl (.tmp 3) (.tmp 7) rfl rfl rfl N2.rc rfl rfl ?_; intro w3 P3; have H := Cl3.mk' N0 N1 N2 P3; clear N0 N1 N2 P3 k00; have k00 := H.p.c0; have p1 := H.p.c1; have p2 := H.p.c2; have p3 := H.p.c3; have p5 := H.p.c5; have p6 := H.p.c6; have p7 := H.p.c7)
    | (refine wpList_at (Op.store 3 (.tmp 55) (.tmp 54)) rfl ?_; refine wpList_fput (s' := {kS s.kd with tx := s.tx}) (I' := nilV) (T' := nilV) _ rfl 3 (.tmp 55) (.tmp 54) rfl rfl rfl H.c (by omega) rfl (by kernel_rfl) rfl ?_; intro w4 P4; have H4 := H.put P4.rc P4.off; clear H; have H := H4; clear H4 P4; have k00 := H.p.c0; have p1 := H.p.c1; have p2 := H.p.c2; have p3 := H.p.c3; have p5 := H.p.c5; have p6 := H.p.c6; have p7 := H.p.c7)
    | (refine wpList_at (Op.store 3 (.tmp 58) (.tmp 57)) rfl ?_; refine wpList_fput (s' := {kS s.kd with tx := s.tx, pv := s.pv}) (I' := nilV) (T' := nilV) _ rfl 3 (.tmp 58) (.tmp 57) rfl rfl rfl H.c (by omega) rfl (by kernel_rfl) rfl ?_; intro w4 P4; have H4 := H.put P4.rc P4.off; clear H; have H := H4; clear H4 P4; have k00 := H.p.c0; have p1 := H.p.c1; have p2 := H.p.c2; have p3 := H.p.c3; have p5 := H.p.c5; have p6 := H.p.c6; have p7 := H.p.c7)
    | (refine wpList_at (Op.store 3 (.tmp 70) (.tmp 69)) rfl ?_; refine wpList_fput (s' := {kS s.kd with tx := s.tx, pv := s.pv, pg := s.pg}) (I' := nilV) (T' := nilV) _ rfl 3 (.tmp 70) (.tmp 69) rfl rfl rfl H.c (by omega) rfl (by kernel_rfl) rfl ?_; intro w4 P4; have H4 := H.put P4.rc P4.off; clear H; have H := H4; clear H4 P4; have k00 := H.p.c0; have p1 := H.p.c1; have p2 := H.p.c2; have p3 := H.p.c3; have p5 := H.p.c5; have p6 := H.p.c6; have p7 := H.p.c7)
    | (refine wpList_at (Op.store 9 (.tmp 73) (.tmp 72)) rfl ?_; refine wpList_fput (s' := {kS s.kd with tx := s.tx, pv := s.pv, pg := s.pg, ky := s.ky}) (I' := nilV) (T' := nilV) _ rfl 9 (.tmp 73) (.tmp 72) rfl rfl rfl H.c (by omega) rfl (by kernel_rfl) rfl ?_; intro w4 P4; have H4 := H.put P4.rc P4.off; clear H; have H := H4; clear H4 P4; have k00 := H.p.c0; have p1 := H.p.c1; have p2 := H.p.c2; have p3 := H.p.c3; have p5 := H.p.c5; have p6 := H.p.c6; have p7 := H.p.c7)
    | (refine wpList_at (Op.store 9 (.tmp 78) (.tmp 77)) rfl ?_; refine wpList_fput (s' := {kS s.kd with tx := s.tx, pv := s.pv, pg := s.pg, ky := s.ky, ol := s.ol}) (I' := nilV) (T' := nilV) _ rfl 9 (.tmp 78) (.tmp 77) rfl rfl rfl H.c (by omega) rfl (by kernel_rfl) rfl ?_; intro w4 P4; have H4 := H.put P4.rc P4.off; clear H; have H := H4; clear H4 P4; have k00 := H.p.c0; have p1 := H.p.c1; have p2 := H.p.c2; have p3 := H.p.c3; have p5 := H.p.c5; have p6 := H.p.c6; have p7 := H.p.c7)
    | (refine wpList_at (Op.store 9 (.tmp 83) (.tmp 82)) rfl ?_; refine wpList_fput (s' := {kS s.kd with tx := s.tx, pv := s.pv, pg := s.pg, ky := s.ky, ol := s.ol, nw := s.nw}) (I' := nilV) (T' := nilV) _ rfl 9 (.tmp 83) (.tmp 82) rfl rfl rfl H.c (by omega) rfl (by kernel_rfl) rfl ?_; intro w4 P4; have H4 := H.put P4.rc P4.off; clear H; have H := H4; clear H4 P4; have k00 := H.p.c0; have p1 := H.p.c1; have p2 := H.p.c2; have p3 := H.p.c3; have p5 := H.p.c5; have p6 := H.p.c6; have p7 := H.p.c7)
    | (refine wpList_load_rc _ rfl (.tmp 3) rfl rfl H.c ?_)
    | (refine wpList_at (Op.store 25 (.tmp 2) (.tmp 84)) rfl ?_; refine wpList_put_rc (s' := {kS s.kd with tx := s.tx, pv := s.pv, pg := s.pg, ky := s.ky, ol := s.ol, nw := s.nw}) (I' := nilV) (T' := nilV) _ rfl (.tmp 2) (.tmp 84) rfl rfl rfl H.r rfl rfl ?_; intro w9 P9))
  obtain ⟨g1, g2⟩ := H.ret P9
  refine bodyPost_ret (results_rc1 rfl _ _ rfl g1) rfl ?_
  exact ⟨rfl, g2⟩
set_option maxHeartbeats 1000000 in
theorem rclean_63 (hk : s.kd = 6) (ha : s.ac = 3) : Calls Try.prog 16 #[.agg (s.A I T)] w fun e w' => e = .returned (.agg (({kS s.kd with nx := s.nx, ac := s.ac, tx := s.tx, pv := s.pv, pg := s.pg, ky := s.ky, nw := s.nw} : Sc).A nilV nilV)) ∧ Below w.heap.size w w' := by
  have e1 : (s.kd == 1) = false := by rw [hk]; rfl
  have e2 : (s.kd == 2) = false := by rw [hk]; rfl
  have e9 : (s.kd == 9) = false := by rw [hk]; rfl
  have e10 : (s.kd == 10) = false := by rw [hk]; rfl
  have e6 : (s.kd == 6) = true := by rw [hk]; rfl
  have e3 : (s.kd == 3) = false := by rw [hk]; rfl
  have e4 : (s.kd == 4) = false := by rw [hk]; rfl
  have e5 : (s.kd == 5) = false := by rw [hk]; rfl
  have e7 : (s.kd == 7) = false := by rw [hk]; rfl
  have e8 : (s.kd == 8) = false := by rw [hk]; rfl
  have n3 : (s.ac != 3) = false := by rw [ha]; rfl
  have n4 : (s.ac != 4) = true := by rw [ha]; rfl
  have e7 : (s.kd == 7) = false := by rw [hk]; rfl
  have e8 : (s.kd == 8) = false := by rw [hk]; rfl
  clear hk ha
  go_enter Try.func16, Try.ntmps16
  go_wp2_with (first
    | (refine wpList_box_rc (s := s) (I := _) (T := _) _ rfl _ rfl rfl ?_; intro w0 b0 N0)
    | (have := N1; refine wpList_new_rc _ rfl rfl ?_; intro w2 b2 N2; have k00 := ((N0.rc.below N1.below).below N2.below).c0)
    | (refine wpList_new_rc _ rfl rfl ?_; intro w1 b1 N1; have k00 := (N0.rc.below N1.below).c0)
    | (refine wpList_at (Op.store 25 (.tmp 3) (.tmp 7)) rfl ?_; refine wpList_put_rc (s' := kS s.kd) (I' := nilV) (T' := nilV) _ rfl (.tmp 3) (.tmp 7) rfl rfl rfl N2.rc rfl rfl ?_; intro w3 P3; have H := Cl3.mk' N0 N1 N2 P3; clear N0 N1 N2 P3 k00; have k00 := H.p.c0; have p1 := H.p.c1; have p2 := H.p.c2; have p3 := H.p.c3; have p4 := H.p.c4; have p5 := H.p.c5; have p6 := H.p.c6; have p7 := H.p.c7; have p8 := H.p.c8)
    | (refine wpList_at (Op.store 3 (.tmp 39) (.tmp 38)) rfl ?_; refine wpList_fput (s' := {kS s.kd with nx := s.nx}) (I' := nilV) (T' := nilV) _ rfl 3 (.tmp 39) (.tmp 38) rfl rfl rfl H.c (by omega) rfl (by kernel_rfl) rfl ?_; intro w4 P4; have H4 := H.put P4.rc P4.off; clear H; have H := H4; clear H4 P4; have k00 := H.p.c0; have p1 := H.p.c1; have p2 := H.p.c2; have p3 := H.p.c3; have p4 := H.p.c4; have p5 := H.p.c5; have p6 := H.p.c6; have p7 := H.p.c7; have p8 := H.p.c8)
    | (refine wpList_at (Op.store 3 (.tmp 42) (.tmp 41)) rfl ?_; refine wpList_fput (s' := {kS s.kd with nx := s.nx, ac := s.ac}) (I' := nilV) (T' := nilV) _ rfl 3 (.tmp 42) (.tmp 41) rfl rfl rfl H.c (by omega) rfl (by kernel_rfl) rfl ?_; intro w4 P4; have H4 := H.put P4.rc P4.off; clear H; have H := H4; clear H4 P4; have k00 := H.p.c0; have p1 := H.p.c1; have p2 := H.p.c2; have p3 := H.p.c3; have p4 := H.p.c4; have p5 := H.p.c5; have p6 := H.p.c6; have p7 := H.p.c7; have p8 := H.p.c8)
    | (refine wpList_at (Op.store 3 (.tmp 55) (.tmp 54)) rfl ?_; refine wpList_fput (s' := {kS s.kd with nx := s.nx, ac := s.ac, tx := s.tx}) (I' := nilV) (T' := nilV) _ rfl 3 (.tmp 55) (.tmp 54) rfl rfl rfl H.c (by omega) rfl (by kernel_rfl) rfl ?_; intro w4 P4; have H4 := H.put P4.rc P4.off; clear H; have H := H4; clear H4 P4; have k00 := H.p.c0; have p1 := H.p.c1; have p2 := H.p.c2; have p3 := H.p.c3; have p4 := H.p.c4; have p5 := H.p.c5; have p6 := H.p.c6; have p7 := H.p.c7; have p8 := H.p.c8)
    | (refine wpList_at (Op.store 3 (.tmp 58) (.tmp 57)) rfl ?_; refine wpList_fput (s' := {kS s.kd with nx := s.nx, ac := s.ac, tx := s.tx, pv := s.pv}) (I' := nilV) (T' := nilV) _ rfl 3 (.tmp 58) (.tmp 57) rfl rfl rfl H.c (by omega) rfl (by kernel_rfl) rfl ?_; intro w4 P4; have H4 := H.put P4.rc P4.off; clear H; have H := H4; clear H4 P4; have k00 := H.p.c0; have p1 := H.p.c1; have p2 := H.p.c2; have p3 := H.p.c3; have p4 := H.p.c4; have p5 := H.p.c5; have p6 := H.p.c6; have p7 := H.p.c7; have p8 := H.p.c8)
    | (refine wpList_at (Op.store 3 (.tmp 70) (.tmp 69)) rfl ?_; refine wpList_fput (s' := {kS s.kd with nx := s.nx, ac := s.ac, tx := s.tx, pv := s.pv, pg := s.pg}) (I' := nilV) (T' := nilV) _ rfl 3 (.tmp 70) (.tmp 69) rfl rfl rfl H.c (by omega) rfl (by kernel_rfl) rfl ?_; intro w4 P4; have H4 := H.put P4.rc P4.off; clear H; have H := H4; clear H4 P4; have k00 := H.p.c0; have p1 := H.p.c1; have p2 := H.p.c2; have p3 := H.p.c3; have p4 := H.p.c4; have p5 := H.p.c5; have p6 := H.p.c6; have p7 := H.p.c7; have p8 := H.p.c8)
    | (refine wpList_at (Op.store 9 (.tmp 73) (.tmp 72)) rfl ?_; refine wpList_fput (s' := {kS s.kd with nx := s.nx, ac := s.ac, tx := s.tx, pv := s.pv, pg := s.pg, ky := s.ky}) (I' := nilV) (T' := nilV) _ rfl 9 (.tmp 73) (.tmp 72) rfl rfl rfl H.c (by omega) rfl (by kernel_rfl) rfl ?_; intro w4 P4; have H4 := H.put P4.rc P4.off; clear H; have H := H4; clear H4 P4; have k00 := H.p.c0; have p1 := H.p.c1; have p2 := H.p.c2; have p3 := H.p.c3; have p4 := H.p.c4; have p5 := H.p.c5; have p6 := H.p.c6; have p7 := H.p.c7; have p8 := H.p.c8)
    | (refine wpList_at (Op.store 9 (.tmp 83) (.tmp 82)) rfl ?_; refine wpList_fput (s' := {kS s.kd with nx := s.nx, ac := s.ac, tx := s.tx, pv := s.pv, pg := s.pg, ky := s.ky, nw := s.nw}) (I' := nilV) (T' := nilV) _ rfl 9 (.tmp 83) (.tmp 82) rfl rfl rfl H.c (by omega) rfl (by kernel_rfl) rfl ?_; intro w4 P4; have H4 := H.put P4.rc P4.off; clear H; have H := H4; clear H4 P4; have k00 := H.p.c0; have p1 := H.p.c1; have p2 := H.p.c2; have p3 := H.p.c3; have p4 := H.p.c4; have p5 := H.p.c5; have p6 := H.p.c6; have p7 := H.p.c7; have p8 := H.p.c8)
    | (refine wpList_load_rc _ rfl (.tmp 3) rfl rfl H.c ?_)
    | (refine wpList_at (Op.store 25 (.tmp 2) (.tmp 84)) rfl ?_; refine wpList_put_rc (s' := {kS s.kd with nx := s.nx, ac := s.ac, tx := s.tx, pv := s.pv, pg := s.pg, ky := s.ky, nw := s.nw}) (I' := nilV) (T' := nilV) _ rfl (.tmp 2) (.tmp 84) rfl rfl rfl H.r rfl rfl ?_; intro w9 P9))
  obtain ⟨g1, g2⟩ := H.ret P9
  refine bodyPost_ret (results_rc1 rfl _ _ rfl g1) rfl ?_
  exact ⟨rfl, g2⟩
set_option maxHeartbeats 1000000 in
theorem rclean_64 (hk : s.kd = 6) (ha : s.ac = 4) : Calls Try.prog 16 #[.agg (s.A I T)] w fun e w' => e = .returned (.agg (({kS s.kd with nx := s.nx, ac := s.ac, tx := s.tx, pv := s.pv, pg := s.pg, ky := s.ky, ol := s.ol} : Sc).A nilV nilV)) ∧ Below w.heap.size w w' := by
  have e1 : (s.kd == 1) = false := by rw [hk]; rfl
  have e2 : (s.kd == 2) = false := by rw [hk]; rfl
  have e9 : (s.kd == 9) = false := by rw [hk]; rfl
  have e10 : (s.kd == 10) = false := by rw [hk]; rfl
  have e6 : (s.kd == 6) = true := by rw [hk]; rfl
  have e3 : (s.kd == 3) = false := by rw [hk]; rfl
  have e4 : (s.kd == 4) = false := by rw [hk]; rfl
  have e5 : (s.kd == 5) = false := by rw [hk]; rfl
  have e7 : (s.kd == 7) = false := by rw [hk]; rfl
  have e8 : (s.kd == 8) = false := by rw [hk]; rfl
  have n3 : (s.ac != 3) = true := by rw [ha]; rfl
  have n4 : (s.ac != 4) = false := by rw [ha]; rfl
  have e7 : (s.kd == 7) = false := by rw [hk]; rfl
  have e8 : (s.kd == 8) = false := by rw [hk]; rfl
  clear hk ha
  go_enter Try.func16, Try.ntmps16
  go_wp2_with (first
    | (refine wpList_box_rc (s := s) (I := _) (T := _) _ rfl _ rfl rfl ?_; intro w0 b0 N0)
    | (have := N1; refine wpList_new_rc _ rfl rfl ?_; intro w2 b2 N2; have k00 := ((N0.rc.below N1.below).below N2.below).c0)
    | (refine wpList_new_rc _ rfl rfl ?_; intro w1 b1 N1; have k00 := (N0.rc.below N1.below).c0)
    | (refine wpList_at (Op.store 25 (.tmp 3) (.tmp 7)) rfl ?_; refine wpList_put_rc (s' := kS s.kd) (I' := nilV) (T' := nilV) _ rfl (.tmp 3) (.tmp 7) rfl rfl rfl N2.rc rfl rfl ?_; intro w3 P3; have H := Cl3.mk' N0 N1 N2 P3; clear N0 N1 N2 P3 k00; have k00 := H.p.c0; have p1 := H.p.c1; have p2 := H.p.c2; have p3 := H.p.c3; have p4 := H.p.c4; have p5 := H.p.c5; have p6 := H.p.c6; have p7 := H.p.c7; have p8 := H.p.c8)
    | (refine wpList_at (Op.store 3 (.tmp 39) (.tmp 38)) rfl ?_; refine wpList_fput (s' := {kS s.kd with nx := s.nx}) (I' := nilV) (T' := nilV) _ rfl 3 (.tmp 39) (.tmp 38) rfl rfl rfl H.c (by omega) rfl (by kernel_rfl) rfl ?_; intro w4 P4; have H4 := H.put P4.rc P4.off; clear H; have H := H4; clear H4 P4; have k00 := H.p.c0; have p1 := H.p.c1; have p2 := H.p.c2; have p3 := H.p.c3; have p4 := H.p.c4; have p5 := H.p.c5; have p6 := H.p.c6; have p7 := H.p.c7; have p8 := H.p.c8)
    | (refine wpList_at (Op.store 3 (.tmp 42) (.tmp 41)) rfl ?_; refine wpList_fput (s' := {kS s.kd with nx := s.nx, ac := s.ac}) (I' := nilV) (T' := nilV) _ rfl 3 (.tmp 42) (.tmp 41) rfl rfl rfl H.c (by omega) rfl (by kernel_rfl) rfl ?_; intro w4 P4; have H4 := H.put P4.rc P4.off; clear H; have H := H4; clear H4 P4; have k00 := H.p.c0; have p1 := H.p.c1; have p2 := H.p.c2; have p3 := H.p.c3; have p4 := H.p.c4; have p5 := H.p.c5; have p6 := H.p.c6; have p7 := H.p.c7; have p8 := H.p.c8)
    | (refine wpList_at (Op.store 3 (.tmp 55) (.tmp 54)) rfl ?_; refine wpList_fput (s' := {kS s.kd with nx := s.nx, ac := s.ac, tx := s.tx}) (I' := nilV) (T' := nilV) _ rfl 3 (.tmp 55) (.tmp 54) rfl rfl rfl H.c (by omega) rfl (by kernel_rfl) rfl ?_; intro w4 P4; have H4 := H.put P4.rc P4.off; clear H; have H := H4; clear H4 P4; have k00 := H.p.c0; have p1 := H.p.c1; have p2 := H.p.c2; have p3 := H.p.c3; have p4 := H.p.c4; have p5 := H.p.c5; have p6 := H.p.c6; have p7 := H.p.c7; have p8 := H.p.c8)
    | (refine wpList_at (Op.store 3 (.tmp 58) (.tmp 57)) rfl ?_; refine wpList_fput (s' := {kS s.kd with nx := s.nx, ac := s.ac, tx := s.tx, pv := s.pv}) (I' := nilV) (T' := nilV) _ rfl 3 (.tmp 58) (.tmp 57) rfl rfl rfl H.c (by omega) rfl (by kernel_rfl) rfl ?_; intro w4 P4; have H4 := H.put P4.rc P4.off; clear H; have H := H4; clear H4 P4; have k00 := H.p.c0; have p1 := H.p.c1; have p2 := H.p.c2; have p3 := H.p.c3; have p4 := H.p.c4; have p5 := H.p.c5; have p6 := H.p.c6; have p7 := H.p.c7; have p8 := H.p.c8)
    | (refine wpList_at (Op.store 3 (.tmp 70) (.tmp 69)) rfl ?_; refine wpList_fput (s' := {kS s.kd with nx := s.nx, ac := s.ac, tx := s.tx, pv := s.pv, pg := s.pg}) (I' := nilV) (T' := nilV) _ rfl 3 (.tmp 70) (.tmp 69) rfl rfl rfl H.c (by omega) rfl (by kernel_rfl) rfl ?_; intro w4 P4; have H4 := H.put P4.rc P4.off; clear H; have H := H4; clear H4 P4; have k00 := H.p.c0; have p1 := H.p.c1; have p2 := H.p.c2; have p3 := H.p.c3; have p4 := H.p.c4; have p5 := H.p.c5; have p6 := H.p.c6; have p7 := H.p.c7; have p8 := H.p.c8)
    | (refine wpList_at (Op.store 9 (.tmp 73) (.tmp 72)) rfl ?_; refine wpList_fput (s' := {kS s.kd with nx := s.nx, ac := s.ac, tx := s.tx, pv := s.pv, pg := s.pg, ky := s.ky}) (I' := nilV) (T' := nilV) _ rfl 9 (.tmp 73) (.tmp 72) rfl rfl rfl H.c (by omega) rfl (by kernel_rfl) rfl ?_; intro w4 P4; have H4 := H.put P4.rc P4.off; clear H; have H := H4; clear H4 P4; have k00 := H.p.c0; have p1 := H.p.c1; have p2 := H.p.c2; have p3 := H.p.c3; have p4 := H.p.c4; have p5 := H.p.c5; have p6 := H.p.c6; have p7 := H.p.c7; have p8 := H.p.c8)
    | (refine wpList_at (Op.store 9 (.tmp 78) (.tmp 77)) rfl ?_; refine wpList_fput (s' := {kS s.kd with nx := s.nx, ac := s.ac, tx := s.tx, pv := s.pv, pg := s.pg, ky := s.ky, ol := s.ol}) (I' := nilV) (T' := nilV) _ rfl 9 (.tmp 78) (.tmp 77) rfl rfl rfl H.c (by omega) rfl (by kernel_rfl) rfl ?_; intro w4 P4; have H4 := H.put P4.rc P4.off; clear H; have H := H4; clear H4 P4; have k00 := H.p.c0; have p1 := H.p.c1; have p2 := H.p.c2; have p3 := H.p.c3; have p4 := H.p.c4; have p5 := H.p.c5; have p6 := H.p.c6; have p7 := H.p.c7; have p8 := H.p.c8)
    | (refine wpList_load_rc _ rfl (.tmp 3) rfl rfl H.c ?_)
    | (refine wpList_at (Op.store 25 (.tmp 2) (.tmp 84)) rfl ?_; refine wpList_put_rc (s' := {kS s.kd with nx := s.nx, ac := s.ac, tx := s.tx, pv := s.pv, pg := s.pg, ky := s.ky, ol := s.ol}) (I' := nilV) (T' := nilV) _ rfl (.tmp 2) (.tmp 84) rfl rfl rfl H.r rfl rfl ?_; intro w9 P9))
  obtain ⟨g1, g2⟩ := H.ret P9
  refine bodyPost_ret (results_rc1 rfl _ _ rfl g1) rfl ?_
  exact ⟨rfl, g2⟩
set_option maxHeartbeats 1000000 in
theorem rclean_6o (hk : s.kd = 6) (h3 : s.ac ≠ 3) (h4 : s.ac ≠ 4) : Calls Try.prog 16 #[.agg (s.A I T)] w fun e w' => e = .returned (.agg (({kS s.kd with nx := s.nx, ac := s.ac, tx := s.tx, pv := s.pv, pg := s.pg, ky := s.ky, ol := s.ol, nw := s.nw} : Sc).A nilV nilV)) ∧ Below w.heap.size w w' := by
  have e1 : (s.kd == 1) = false := by rw [hk]; rfl
  have e2 : (s.kd == 2) = false := by rw [hk]; rfl
  have e9 : (s.kd == 9) = false := by rw [hk]; rfl
  have e10 : (s.kd == 10) = false := by rw [hk]; rfl
  have e6 : (s.kd == 6) = true := by rw [hk]; rfl
  have e3 : (s.kd == 3) = false := by rw [hk]; rfl
  have e4 : (s.kd == 4) = false := by rw [hk]; rfl
  have e5 : (s.kd == 5) = false := by rw [hk]; rfl
  have e7 : (s.kd == 7) = false := by rw [hk]; rfl
  have e8 : (s.kd == 8) = false := by rw [hk]; rfl
  have n3 : (s.ac != 3) = true := by simpa using h3
  have n4 : (s.ac != 4) = true := by simpa using h4
  have e7 : (s.kd == 7) = false := by rw [hk]; rfl
  have e8 : (s.kd == 8) = false := by rw [hk]; rfl
  clear hk h3 h4
  go_enter Try.func16, Try.ntmps16
  go_wp2_with (first
    | (refine wpList_box_rc (s := s) (I := _) (T := _) _ rfl _ rfl rfl ?_; intro w0 b0 N0)
    | (have := N1; refine wpList_new_rc _ rfl rfl ?_; intro w2 b2 N2; have k00 := ((N0.rc.below N1.below).below N2.below).c0)
    | (refine wpList_new_rc _ rfl rfl ?_; intro w1 b1 N1; have k00 := (N0.rc.below N1.below).c0)
    | (refine wpList_at (Op.store 25 (.tmp 3) (.tmp 7)) rfl ?_; refine wpList_put_rc (s' := kS s.kd) (I' := nilV) (T' := nilV) _ rfl (.tmp 3) (.tmp 7) rfl rfl rfl N2.rc rfl rfl ?_; intro w3 P3; have H := Cl3.mk' N0 N1 N2 P3; clear N0 N1 N2 P3 k00; have k00 := H.p.c0; have p1 := H.p.c1; have p2 := H.p.c2; have p3 := H.p.c3; have p4 := H.p.c4; have p5 := H.p.c5; have p6 := H.p.c6; have p7 := H.p.c7; have p8 := H.p.c8)
    | (refine wpList_at (Op.store 3 (.tmp 39) (.tmp 38)) rfl ?_; refine wpList_fput (s' := {kS s.kd with nx := s.nx}) (I' := nilV) (T' := nilV) _ rfl 3 (.tmp 39) (.tmp 38) rfl rfl rfl H.c (by omega) rfl (by kernel_rfl) rfl ?_; intro w4 P4; have H4 := H.put P4.rc P4.off; clear H; have H := H4; clear H4 P4; have k00 := H.p.c0; have p1 := H.p.c1; have p2 := H.p.c2; have p3 := H.p.c3; have p4 := H.p.c4; have p5 := H.p.c5; have p6 := H.p.c6; have p7 := H.p.c7; have p8 := H.p.c8)
    | (refine wpList_at (Op.store 3 (.tmp 42) (.tmp 41)) rfl ?_; refine wpList_fput (s' := {kS s.kd with nx := s.nx, ac := s.ac}) (I' := nilV) (T' := nilV) _ rfl 3 (.tmp 42) (.tmp 41) rfl rfl rfl H.c (by omega) rfl (by kernel_rfl) rfl ?_; intro w4 P4; have H4 := H.put P4.rc P4.off; clear H; have H := H4; clear H4 P4; have k00 := H.p.c0; have p1 := H.p.c1; have p2 := H.p.c2; have p3 := H.p.c3; have p4 := H.p.c4; have p5 := H.p.c5; have p6 := H.p.c6; have p7 := H.p.c7; have p8 := H.p.c8)
    | (refine wpList_at (Op.store 3 (.tmp 55) (.tmp 54)) rfl ?_; refine wpList_fput (s' := {kS s.kd with nx := s.nx, ac := s.ac, tx := s.tx}) (I' := nilV) (T' := nilV) _ rfl 3 (.tmp 55) (.tmp 54) rfl rfl rfl H.c (by omega) rfl (by kernel_rfl) rfl ?_; intro w4 P4; have H4 := H.put P4.rc P4.off; clear H; have H := H4; clear H4 P4; have k00 := H.p.c0; have p1 := H.p.c1; have p2 := H.p.c2; have p3 := H.p.c3; have p4 := H.p.c4; have p5 := H.p.c5; have p6 := H.p.c6; have p7 := H.p.c7; have p8 := H.p.c8)
    | (refine wpList_at (Op.store 3 (.tmp 58) (.tmp 57)) rfl ?_; refine wpList_fput (s' := {kS s.kd with nx := s.nx, ac := s.ac, tx := s.tx, pv := s.pv}) (I' := nilV) (T' := nilV) _ rfl 3 (.tmp 58) (.tmp 57) rfl rfl rfl H.c (by omega) rfl (by kernel_rfl) rfl ?_; intro w4 P4; have H4 := H.put P4.rc P4.off; clear H; have H := H4; clear H4 P4; have k00 := H.p.c0; have p1 := H.p.c1; have p2 := H.p.c2; have p3 := H.p.c3; have p4 := H.p.c4; have p5 := H.p.c5; have p6 := H.p.c6; have p7 := H.p.c7; have p8 := H.p.c8)
    | (refine wpList_at (Op.store 3 (.tmp 70) (.tmp 69)) rfl ?_; refine wpList_fput (s' := {kS s.kd with nx := s.nx, ac := s.ac, tx := s.tx, pv := s.pv, pg := s.pg}) (I' := nilV) (T' := nilV) _ rfl 3 (.tmp 70) (.tmp 69) rfl rfl rfl H.c (by omega) rfl (by kernel_rfl) rfl ?_; intro w4 P4; have H4 := H.put P4.rc P4.off; clear H; have H := H4; clear H4 P4; have k00 := H.p.c0; have p1 := H.p.c1; have p2 := H.p.c2; have p3 := H.p.c3; have p4 := H.p.c4; have p5 := H.p.c5; have p6 := H.p.c6; have p7 := H.p.c7; have p8 := H.p.c8)
    | (refine wpList_at (Op.store 9 (.tmp 73) (.tmp 72)) rfl ?_; refine wpList_fput (s' := {kS s.kd with nx := s.nx, ac := s.ac, tx := s.tx, pv := s.pv, pg := s.pg, ky := s.ky}) (I' := nilV) (T' := nilV) _ rfl 9 (.tmp 73) (.tmp 72) rfl rfl rfl H.c (by omega) rfl (by kernel_rfl) rfl ?_; intro w4 P4; have H4 := H.put P4.rc P4.off; clear H; have H := H4; clear H4 P4; have k00 := H.p.c0; have p1 := H.p.c1; have p2 := H.p.c2; have p3 := H.p.c3; have p4 := H.p.c4; have p5 := H.p.c5; have p6 := H.p.c6; have p7 := H.p.c7; have p8 := H.p.c8)
    | (refine wpList_at (Op.store 9 (.tmp 78) (.tmp 77)) rfl ?_; refine wpList_fput (s' := {kS s.kd with nx := s.nx, ac := s.ac, tx := s.tx, pv := s.pv, pg := s.pg, ky := s.ky, ol := s.ol}) (I' := nilV) (T' := nilV) _ rfl 9 (.tmp 78) (.tmp 77) rfl rfl rfl H.c (by omega) rfl (by kernel_rfl) rfl ?_; intro w4 P4; have H4 := H.put P4.rc P4.off; clear H; have H := H4; clear H4 P4; have k00 := H.p.c0; have p1 := H.p.c1; have p2 := H.p.c2; have p3 := H.p.c3; have p4 := H.p.c4; have p5 := H.p.c5; have p6 := H.p.c6; have p7 := H.p.c7; have p8 := H.p.c8)
    | (refine wpList_at (Op.store 9 (.tmp 83) (.tmp 82)) rfl ?_; refine wpList_fput (s' := {kS s.kd with nx := s.nx, ac := s.ac, tx := s.tx, pv := s.pv, pg := s.pg, ky := s.ky, ol := s.ol, nw := s.nw}) (I' := nilV) (T' := nilV) _ rfl 9 (.tmp 83) (.tmp 82) rfl rfl rfl H.c (by omega) rfl (by kernel_rfl) rfl ?_; intro w4 P4; have H4 := H.put P4.rc P4.off; clear H; have H := H4; clear H4 P4; have k00 := H.p.c0; have p1 := H.p.c1; have p2 := H.p.c2; have p3 := H.p.c3; have p4 := H.p.c4; have p5 := H.p.c5; have p6 := H.p.c6; have p7 := H.p.c7; have p8 := H.p.c8)
    | (refine wpList_load_rc _ rfl (.tmp 3) rfl rfl H.c ?_)
    | (refine wpList_at (Op.store 25 (.tmp 2) (.tmp 84)) rfl ?_; refine wpList_put_rc (s' := {kS s.kd with nx := s.nx, ac := s.ac, tx := s.tx, pv := s.pv, pg := s.pg, ky := s.ky, ol := s.ol, nw := s.nw}) (I' := nilV) (T' := nilV) _ rfl (.tmp 2) (.tmp 84) rfl rfl rfl H.r rfl rfl ?_; intro w9 P9))
  obtain ⟨g1, g2⟩ := H.ret P9
  refine bodyPost_ret (results_rc1 rfl _ _ rfl g1) rfl ?_
  exact ⟨rfl, g2⟩
end

theorem rclean_any {w : World} {v : Value} {m : Rm} (h : RecV w v m) : Calls Try.prog 16 #[v] w fun e w' => (∃ v', e = .returned v' ∧ RecV w' v' (cleanM m)) ∧ Below w.heap.size w w' := by
  obtain ⟨s, l, g⟩ := m
  obtain ⟨I, T, rfl, hI, hT⟩ := h.ex
  dsimp only at hI hT
  by_cases h1 : s.kd = 1
  · refine (rclean_1 h1 hI.one).mono ?_
    rintro e w' ⟨rfl, hb⟩
    refine ⟨⟨_, rfl, ⟨I, nilV, ?_, ?_, ?_⟩⟩, hb⟩
    · simp [cleanM, cleanS, h1, kS, zS]
    · simpa [cleanM, h1] using hI.below hb
    · simpa [cleanM, h1] using SlT.nil w'
  by_cases h2 : s.kd = 2
  · refine (rclean_2 h2 hI.one).mono ?_
    rintro e w' ⟨rfl, hb⟩
    refine ⟨⟨_, rfl, ⟨I, nilV, ?_, ?_, ?_⟩⟩, hb⟩
    · simp [cleanM, cleanS, h2, kS, zS]
    · simpa [cleanM, h2] using hI.below hb
    · simpa [cleanM, h2] using SlT.nil w'
  by_cases h9 : s.kd = 9
  · refine (rclean_9 h9 hT.one).mono ?_
    rintro e w' ⟨rfl, hb⟩
    refine ⟨⟨_, rfl, ⟨nilV, T, ?_, ?_, ?_⟩⟩, hb⟩
    · simp [cleanM, cleanS, h9, kS, zS]
    · simpa [cleanM, h9] using SlI.nil w'
    · simpa [cleanM, h9] using hT.below hb
  have fin : ∀ (w' : World) (c : Sc), cleanS s = c → RecV w' (.agg (c.A nilV nilV)) (cleanM ⟨s, l, g⟩) := fun w' c hc => by
    refine ⟨nilV, nilV, ?_, ?_, ?_⟩
    · simp [cleanM, hc]
    · simpa [cleanM, h1, h2] using SlI.nil w'
    · simpa [cleanM, h9] using SlT.nil w'
  by_cases h3 : s.kd = 3
  · exact (rclean_3 h3).mono fun e w' ⟨he, hb⟩ => ⟨⟨_, he, fin w' _ (by simp [cleanS, h3, kS, zS, actOf])⟩, hb⟩
  by_cases h4 : s.kd = 4
  · exact (rclean_4 h4).mono fun e w' ⟨he, hb⟩ => ⟨⟨_, he, fin w' _ (by simp [cleanS, h4, kS, zS, actOf])⟩, hb⟩
  by_cases h5 : s.kd = 5
  · exact (rclean_5 h5).mono fun e w' ⟨he, hb⟩ => ⟨⟨_, he, fin w' _ (by simp [cleanS, h5, kS, zS, actOf])⟩, hb⟩
  by_cases h6 : s.kd = 6
  · by_cases a3 : s.ac = 3
    · exact (rclean_63 h6 a3).mono fun e w' ⟨he, hb⟩ => ⟨⟨_, he, fin w' _ (by simp [cleanS, h6, kS, zS, actOf, a3])⟩, hb⟩
    by_cases a4 : s.ac = 4
    · exact (rclean_64 h6 a4).mono fun e w' ⟨he, hb⟩ => ⟨⟨_, he, fin w' _ (by simp [cleanS, h6, kS, zS, actOf, a4])⟩, hb⟩
    · exact (rclean_6o h6 a3 a4).mono fun e w' ⟨he, hb⟩ => ⟨⟨_, he, fin w' _ (by simp [cleanS, h6, kS, zS, actOf, a3, a4])⟩, hb⟩
  by_cases h7 : s.kd = 7
  · exact (rclean_7 h7).mono fun e w' ⟨he, hb⟩ => ⟨⟨_, he, fin w' _ (by simp [cleanS, h7, kS, zS])⟩, hb⟩
  by_cases h8 : s.kd = 8
  · exact (rclean_8 h8).mono fun e w' ⟨he, hb⟩ => ⟨⟨_, he, fin w' _ (by simp [cleanS, h8, kS, zS])⟩, hb⟩
  by_cases h10 : s.kd = 10
  · exact (rclean_10 h10).mono fun e w' ⟨he, hb⟩ => ⟨⟨_, he, fin w' _ (by simp [cleanS, h10, kS, zS])⟩, hb⟩
  · exact (rclean_o h1 h2 h3 h4 h5 h6 h7 h8 h9 h10).mono fun e w' ⟨he, hb⟩ => ⟨⟨_, he, fin w' _ (by simp [cleanS, h1, h2, h3, h4, h5, h6, h7, h8, h9, h10, kS, zS])⟩, hb⟩
end Go.Proofs.Ytakdfdnndogaiaa

namespace Go.Proofs.Ytakdfdnndogaiaa
open Go.RowKit
set_option linter.unusedVariables false
set_option linter.unusedSimpArgs false
set_option maxRecDepth 100000

theorem finM_body (m : Rm) : finM (laidF m (⟨#[]⟩, refM m)) = bodyM m := by
  by_cases hr : refM m = 0
  · rw [hr]
    have hB := Bare.laidF bare0 m
    show finM (laidM m) = _
    by_cases he : (laidM m).2 = 0
    · by_cases hl : 4096 < (laidM m).1.size
      · rw [finM_long he hl, bodyM_long hr he hl]
      · rw [finM_good hl, bodyM_good hr he hl]
        exact Prod.ext rfl he
    · rw [finM_err he, bodyM_err hr he]
      exact Prod.ext (hB he) rfl
  · rw [laidF_had m hr, finM_err hr, bodyM_ref hr]
theorem clean_texts (m : Rm) (h : refM (cleanM m) = 0) : (cleanM m).s.ky.size ≤ 1000 ∧ (cleanM m).s.ol.size ≤ 1000 ∧ (cleanM m).s.nw.size ≤ 1000 := by
  have f := fine_of h
  have h1 := f.ky
  have h2 := f.ol
  have h3 := f.nw
  omega
theorem clean_bare (m : Rm) (h : (cleanM m).s.kd = 1 ∨ (cleanM m).s.kd = 2) : (cleanM m).s.ky.size = 0 ∧ (cleanM m).s.ol.size = 0 ∧ (cleanM m).s.nw.size = 0 := by
  have e : (cleanM m).s.kd = m.s.kd := cleanS_kd m.s
  rw [e] at h
  have : (cleanM m).s = ⟨m.s.kd, 0, 0, 0, 0, ⟨#[]⟩, ⟨#[]⟩, ⟨#[]⟩, 0, 0, 0⟩ := by
    unfold cleanM cleanS
    dsimp only
    rw [if_neg (by omega), if_neg (by omega), if_neg (by omega)]
  rw [this]
  exact ⟨rfl, rfl, rfl⟩
theorem rbody_any {w : World} {v : Value} {m : Rm} (h : RecV w v m) (hs : Small m) : Calls Try.prog 11 #[v] w fun r w' => r = .returned (.tuple #[.string (bodyM (cleanM m)).1, .int .i64 (bodyM (cleanM m)).2]) ∧ Below w.heap.size w w' := by
  have hs' := hs.clean
  have hv := h
  obtain ⟨I, T, rfl, hI, hT⟩ := h.ex
  have hb := clean_bare m
  have CC : Hid (∀ w', Below w.heap.size w w' → Calls Try.prog 16 #[.agg (m.s.A I T)] w' fun e w'' => (∃ v', e = .returned v' ∧ RecV w'' v' (cleanM m)) ∧ Below w'.heap.size w' w'') := fun w' hb => rclean_any (hv.below hb)
  have CA : Hid (∀ w' v', RecV w' v' (cleanM m) → Calls Try.prog 24 #[v'] w' fun r w'' => r = .returned (.int .i64 (refM (cleanM m))) ∧ Below w'.heap.size w' w'') := fun w' v' h' => ahead_any h' hs'.im hs'.t hs'.ky hs'.ol hs'.nw hb
  have hy : refM (cleanM m) = 0 → (cleanM m).s.ky.size ≤ 1000 := fun e => (clean_texts m e).1
  have ho : refM (cleanM m) = 0 → (cleanM m).s.ol.size ≤ 1000 := fun e => (clean_texts m e).2.1
  have hw : refM (cleanM m) = 0 → (cleanM m).s.nw.size ≤ 1000 := fun e => (clean_texts m e).2.2
  have hx : refM (cleanM m) = 0 → ((cleanM m).s.kd = 1 ∨ (cleanM m).s.kd = 2) → ∀ p ∈ (cleanM m).im, p.2.size ≤ 1000 := fun e k => (fine_of e).texts k
  have hn := hs'.im
  have hg := hs'.tb
  rw [← finM_body]
  have hu : (cleanM m).s.kd < 1 ∨ 10 < (cleanM m).s.kd → refM (cleanM m) = 1 := by
    intro e; unfold refM; rw [if_pos e]
  generalize refM (cleanM m) = e0 at *
  generalize cleanM m = c at *
  obtain ⟨s, l, g⟩ := c
  dsimp only at *
  unfold laidF
  dsimp only
  by_cases h1 : s.kd = 1
  · rw [if_pos (Or.inl h1)]
    exact rbody_1 h1 CC CA hy ho hw hn (fun e => hx e (Or.inl h1))
  by_cases h2 : s.kd = 2
  · rw [if_pos (Or.inr h2)]
    exact rbody_2 h2 CC CA hy ho hw hn (fun e => hx e (Or.inr h2))
  rw [if_neg (by omega)]
  by_cases h3 : s.kd = 3
  · rw [if_pos (by omega)]
    exact rbody_3 h3 CC CA hy ho hw
  by_cases h4 : s.kd = 4
  · rw [if_pos (by omega)]
    exact rbody_4 h4 CC CA hy ho hw
  by_cases h5 : s.kd = 5
  · rw [if_pos (by omega)]
    exact rbody_5 h5 CC CA hy ho hw
  rw [if_neg (by omega)]
  by_cases h6 : s.kd = 6
  · rw [if_pos h6]
    exact rbody_6 h6 CC CA hy ho hw
  rw [if_neg h6]
  by_cases h7 : s.kd = 7
  · rw [if_pos (by omega)]
    exact rbody_7 h7 CC CA hy ho hw
  by_cases h8 : s.kd = 8
  · rw [if_pos (by omega)]
    exact rbody_8 h8 CC CA hy ho hw
  rw [if_neg (by omega)]
  by_cases h9 : s.kd = 9
  · rw [if_pos h9]
    exact rbody_9 h9 CC CA hy ho hw hg
  rw [if_neg h9]
  by_cases h10 : s.kd = 10
  · rw [if_pos h10]
    exact rbody_10 h10 CC CA hy ho hw
  rw [if_neg h10]
  have e1 := hu (by omega)
  have hne : e0 ≠ 0 := by omega
  by_cases hlo : s.kd < 1
  · have := rbody_lo hlo CC CA hy ho hw
    rw [stepW_had hne, stepW_had hne, stepW_had hne, layC_had _ hne] at this
    rw [stepW_had hne]
    exact this
  · have := rbody_hi (show 10 < s.kd by omega) CC CA hy ho hw
    rw [stepW_had hne, stepW_had hne, stepW_had hne] at this
    rw [stepW_had hne]
    exact this
end Go.Proofs.Ytakdfdnndogaiaa
