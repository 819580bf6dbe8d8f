/- The document's ahead: why a record has no bytes. -/
import Derived.Test.YtakdfdnndogaiaaMai
namespace Go.Proofs.Ytakdfdnndogaiaa
open Go.RowKit
set_option linter.unusedVariables false
set_option linter.unusedSimpArgs false
set_option maxRecDepth 100000

section
variable {w : World} {s : Sc} {T I : Value} {a : Option Addr} {c : Nat} {l : List Im} {g : List Tb}
theorem ahead_1 (hk : s.kd = 1) (hl : l.length ≠ 1) : Calls Try.prog 24 #[.agg (s.A (.slice a l.length c) T)] w fun r w' => r = .returned (.int .i64 4) ∧ Below w.heap.size w w' := by
  have e1 : (s.kd == 1) = true := by rw [hk]; rfl
  have e3 : ((l.length : Int) != 1) = true := by simp; omega
  clear hk hl
  go_enter Try.func24, Try.ntmps24
  go_wp2_with (refine wpList_box_rc (s := s) (I := _) (T := _) _ rfl _ rfl rfl ?_; intro w0 b0 N0; have k0 := N0.rc.c0; have k9 := N0.rc.c9)
  go_ret
  exact ⟨rfl, N0.below⟩
theorem ahead_6 (hk : s.kd = 6) (h : s.ac < 3 ∨ 5 < s.ac) : Calls Try.prog 24 #[.agg (s.A I T)] w fun r w' => r = .returned (.int .i64 4) ∧ Below w.heap.size w w' := by
  have e1 : (s.kd == 1) = false := by rw [hk]; rfl
  have e2 : (s.kd == 2) = false := by rw [hk]; rfl
  have e6 : (s.kd == 6) = true := by rw [hk]; rfl
  clear hk
  by_cases h1 : s.ac < 3
  · clear h
    go_enter Try.func24, Try.ntmps24
    go_wp2_with (refine wpList_box_rc (s := s) (I := _) (T := _) _ rfl _ rfl rfl ?_; intro w0 b0 N0; have k0 := N0.rc.c0; have k4 := N0.rc.c4)
    go_ret
    exact ⟨rfl, N0.below⟩
  · have h2 : 5 < s.ac := by omega
    clear h
    go_enter Try.func24, Try.ntmps24
    go_wp2_with (refine wpList_box_rc (s := s) (I := _) (T := _) _ rfl _ rfl rfl ?_; intro w0 b0 N0; have k0 := N0.rc.c0; have k4 := N0.rc.c4)
    go_ret
    exact ⟨rfl, N0.below⟩
theorem ahead_o (h1 : s.kd ≠ 1) (h2 : s.kd ≠ 2) (h3 : s.kd ≠ 3) (h4 : s.kd ≠ 4) (h5 : s.kd ≠ 5) (h6 : s.kd ≠ 6) (h7 : s.kd ≠ 7) (h8 : s.kd ≠ 8) (h9 : s.kd ≠ 9) (h10 : s.kd ≠ 10) : Calls Try.prog 24 #[.agg (s.A I T)] w fun r w' => r = .returned (.int .i64 1) ∧ Below w.heap.size w w' := by
  have e1 : (s.kd == 1) = false := by simpa using h1
  have e2 : (s.kd == 2) = false := by simpa using h2
  have e6 : (s.kd == 6) = false := by simpa using h6
  have e3 : (s.kd == 3) = false := by simpa using h3
  have e4 : (s.kd == 4) = false := by simpa using h4
  have e5 : (s.kd == 5) = false := by simpa using h5
  have e7 : (s.kd == 7) = false := by simpa using h7
  have e8 : (s.kd == 8) = false := by simpa using h8
  have e9 : (s.kd == 9) = false := by simpa using h9
  have e10 : (s.kd == 10) = false := by simpa using h10
  clear h1 h2 h3 h4 h5 h6 h7 h8 h9 h10
  go_enter Try.func24, Try.ntmps24
  go_wp2_with (refine wpList_box_rc (s := s) (I := _) (T := _) _ rfl _ rfl rfl ?_; intro w0 b0 N0; have k0 := N0.rc.c0)
  go_ret
  exact ⟨rfl, N0.below⟩
def refT (s : Sc) : Int := if 16 < s.ky.size then 17 else if 32 < s.ol.size ∨ 32 < s.nw.size then 18 else 0
set_option maxHeartbeats 1000000 in
theorem ahead_t3 (hk : s.kd = 3) (hy : s.ky.size ≤ 9223372036854775807) (ho : s.ol.size ≤ 9223372036854775807) (hw : s.nw.size ≤ 9223372036854775807) : Calls Try.prog 24 #[.agg (s.A I T)] w fun r w' => r = .returned (.int .i64 (refT s)) ∧ Below w.heap.size w w' := by
  have e1 : (s.kd == 1) = false := by rw [hk]; rfl
  have e2 : (s.kd == 2) = false := by rw [hk]; rfl
  have e6 : (s.kd == 6) = false := by rw [hk]; rfl
  have e3 : (s.kd == 3) = true := by rw [hk]; rfl
  clear hk
  unfold refT
  by_cases k1 : 16 < s.ky.size
  · rw [if_pos k1]
    have k1' : (16 : Int) < s.ky.size := by omega
    go_enter Try.func24, Try.ntmps24
    go_wp2_with (refine wpList_box_rc (s := s) (I := _) (T := _) _ rfl _ rfl rfl ?_; intro w0 b0 N0; have k0 := N0.rc.c0; have k5 := N0.rc.c5; have k6 := N0.rc.c6; have k7 := N0.rc.c7)
    go_ret
    exact ⟨rfl, N0.below⟩
  · rw [if_neg k1]
    have k1' : ¬ (16 : Int) < s.ky.size := by omega
    by_cases k2 : 32 < s.ol.size
    · rw [if_pos (Or.inl k2)]
      have k2' : (32 : Int) < s.ol.size := by omega
      go_enter Try.func24, Try.ntmps24
      go_wp2_with (refine wpList_box_rc (s := s) (I := _) (T := _) _ rfl _ rfl rfl ?_; intro w0 b0 N0; have k0 := N0.rc.c0; have k5 := N0.rc.c5; have k6 := N0.rc.c6; have k7 := N0.rc.c7)
      go_ret
      exact ⟨rfl, N0.below⟩
    · have k2' : ¬ (32 : Int) < s.ol.size := by omega
      by_cases k3 : 32 < s.nw.size
      · rw [if_pos (Or.inr k3)]
        have k3' : (32 : Int) < s.nw.size := by omega
        go_enter Try.func24, Try.ntmps24
        go_wp2_with (refine wpList_box_rc (s := s) (I := _) (T := _) _ rfl _ rfl rfl ?_; intro w0 b0 N0; have k0 := N0.rc.c0; have k5 := N0.rc.c5; have k6 := N0.rc.c6; have k7 := N0.rc.c7)
        go_ret
        exact ⟨rfl, N0.below⟩
      · rw [if_neg (by omega)]
        have k3' : ¬ (32 : Int) < s.nw.size := by omega
        go_enter Try.func24, Try.ntmps24
        go_wp2_with (refine wpList_box_rc (s := s) (I := _) (T := _) _ rfl _ rfl rfl ?_; intro w0 b0 N0; have k0 := N0.rc.c0; have k5 := N0.rc.c5; have k6 := N0.rc.c6; have k7 := N0.rc.c7)
        go_ret
        exact ⟨rfl, N0.below⟩
set_option maxHeartbeats 1000000 in
theorem ahead_t4 (hk : s.kd = 4) (hy : s.ky.size ≤ 9223372036854775807) (ho : s.ol.size ≤ 9223372036854775807) (hw : s.nw.size ≤ 9223372036854775807) : Calls Try.prog 24 #[.agg (s.A I T)] w fun r w' => r = .returned (.int .i64 (refT s)) ∧ Below w.heap.size w w' := by
  have e1 : (s.kd == 1) = false := by rw [hk]; rfl
  have e2 : (s.kd == 2) = false := by rw [hk]; rfl
  have e6 : (s.kd == 6) = false := by rw [hk]; rfl
  have e3 : (s.kd == 3) = false := by rw [hk]; rfl
  have e4 : (s.kd == 4) = true := by rw [hk]; rfl
  clear hk
  unfold refT
  by_cases k1 : 16 < s.ky.size
  · rw [if_pos k1]
    have k1' : (16 : Int) < s.ky.size := by omega
    go_enter Try.func24, Try.ntmps24
    go_wp2_with (refine wpList_box_rc (s := s) (I := _) (T := _) _ rfl _ rfl rfl ?_; intro w0 b0 N0; have k0 := N0.rc.c0; have k5 := N0.rc.c5; have k6 := N0.rc.c6; have k7 := N0.rc.c7)
    go_ret
    exact ⟨rfl, N0.below⟩
  · rw [if_neg k1]
    have k1' : ¬ (16 : Int) < s.ky.size := by omega
    by_cases k2 : 32 < s.ol.size
    · rw [if_pos (Or.inl k2)]
      have k2' : (32 : Int) < s.ol.size := by omega
      go_enter Try.func24, Try.ntmps24
      go_wp2_with (refine wpList_box_rc (s := s) (I := _) (T := _) _ rfl _ rfl rfl ?_; intro w0 b0 N0; have k0 := N0.rc.c0; have k5 := N0.rc.c5; have k6 := N0.rc.c6; have k7 := N0.rc.c7)
      go_ret
      exact ⟨rfl, N0.below⟩
    · have k2' : ¬ (32 : Int) < s.ol.size := by omega
      by_cases k3 : 32 < s.nw.size
      · rw [if_pos (Or.inr k3)]
        have k3' : (32 : Int) < s.nw.size := by omega
        go_enter Try.func24, Try.ntmps24
        go_wp2_with (refine wpList_box_rc (s := s) (I := _) (T := _) _ rfl _ rfl rfl ?_; intro w0 b0 N0; have k0 := N0.rc.c0; have k5 := N0.rc.c5; have k6 := N0.rc.c6; have k7 := N0.rc.c7)
        go_ret
        exact ⟨rfl, N0.below⟩
      · rw [if_neg (by omega)]
        have k3' : ¬ (32 : Int) < s.nw.size := by omega
        go_enter Try.func24, Try.ntmps24
        go_wp2_with (refine wpList_box_rc (s := s) (I := _) (T := _) _ rfl _ rfl rfl ?_; intro w0 b0 N0; have k0 := N0.rc.c0; have k5 := N0.rc.c5; have k6 := N0.rc.c6; have k7 := N0.rc.c7)
        go_ret
        exact ⟨rfl, N0.below⟩
set_option maxHeartbeats 1000000 in
theorem ahead_t5 (hk : s.kd = 5) (hy : s.ky.size ≤ 9223372036854775807) (ho : s.ol.size ≤ 9223372036854775807) (hw : s.nw.size ≤ 9223372036854775807) : Calls Try.prog 24 #[.agg (s.A I T)] w fun r w' => r = .returned (.int .i64 (refT s)) ∧ Below w.heap.size w w' := by
  have e1 : (s.kd == 1) = false := by rw [hk]; rfl
  have e2 : (s.kd == 2) = false := by rw [hk]; rfl
  have e6 : (s.kd == 6) = false := by rw [hk]; rfl
  have e3 : (s.kd == 3) = false := by rw [hk]; rfl
  have e4 : (s.kd == 4) = false := by rw [hk]; rfl
  have e5 : (s.kd == 5) = true := by rw [hk]; rfl
  clear hk
  unfold refT
  by_cases k1 : 16 < s.ky.size
  · rw [if_pos k1]
    have k1' : (16 : Int) < s.ky.size := by omega
    go_enter Try.func24, Try.ntmps24
    go_wp2_with (refine wpList_box_rc (s := s) (I := _) (T := _) _ rfl _ rfl rfl ?_; intro w0 b0 N0; have k0 := N0.rc.c0; have k5 := N0.rc.c5; have k6 := N0.rc.c6; have k7 := N0.rc.c7)
    go_ret
    exact ⟨rfl, N0.below⟩
  · rw [if_neg k1]
    have k1' : ¬ (16 : Int) < s.ky.size := by omega
    by_cases k2 : 32 < s.ol.size
    · rw [if_pos (Or.inl k2)]
      have k2' : (32 : Int) < s.ol.size := by omega
      go_enter Try.func24, Try.ntmps24
      go_wp2_with (refine wpList_box_rc (s := s) (I := _) (T := _) _ rfl _ rfl rfl ?_; intro w0 b0 N0; have k0 := N0.rc.c0; have k5 := N0.rc.c5; have k6 := N0.rc.c6; have k7 := N0.rc.c7)
      go_ret
      exact ⟨rfl, N0.below⟩
    · have k2' : ¬ (32 : Int) < s.ol.size := by omega
      by_cases k3 : 32 < s.nw.size
      · rw [if_pos (Or.inr k3)]
        have k3' : (32 : Int) < s.nw.size := by omega
        go_enter Try.func24, Try.ntmps24
        go_wp2_with (refine wpList_box_rc (s := s) (I := _) (T := _) _ rfl _ rfl rfl ?_; intro w0 b0 N0; have k0 := N0.rc.c0; have k5 := N0.rc.c5; have k6 := N0.rc.c6; have k7 := N0.rc.c7)
        go_ret
        exact ⟨rfl, N0.below⟩
      · rw [if_neg (by omega)]
        have k3' : ¬ (32 : Int) < s.nw.size := by omega
        go_enter Try.func24, Try.ntmps24
        go_wp2_with (refine wpList_box_rc (s := s) (I := _) (T := _) _ rfl _ rfl rfl ?_; intro w0 b0 N0; have k0 := N0.rc.c0; have k5 := N0.rc.c5; have k6 := N0.rc.c6; have k7 := N0.rc.c7)
        go_ret
        exact ⟨rfl, N0.below⟩
set_option maxHeartbeats 1000000 in
theorem ahead_t6 (hk : s.kd = 6) (h6 : 3 ≤ s.ac) (h7 : s.ac ≤ 5) (hy : s.ky.size ≤ 9223372036854775807) (ho : s.ol.size ≤ 9223372036854775807) (hw : s.nw.size ≤ 9223372036854775807) : Calls Try.prog 24 #[.agg (s.A I T)] w fun r w' => r = .returned (.int .i64 (refT s)) ∧ Below w.heap.size w w' := by
  have e1 : (s.kd == 1) = false := by rw [hk]; rfl
  have e2 : (s.kd == 2) = false := by rw [hk]; rfl
  have e6 : (s.kd == 6) = true := by rw [hk]; rfl
  have h6a : ¬ s.ac < 3 := by omega
  have h6b : ¬ 5 < s.ac := by omega
  clear hk h6 h7
  unfold refT
  by_cases k1 : 16 < s.ky.size
  · rw [if_pos k1]
    have k1' : (16 : Int) < s.ky.size := by omega
    go_enter Try.func24, Try.ntmps24
    go_wp2_with (refine wpList_box_rc (s := s) (I := _) (T := _) _ rfl _ rfl rfl ?_; intro w0 b0 N0; have k0 := N0.rc.c0; have k4 := N0.rc.c4; have k5 := N0.rc.c5; have k6 := N0.rc.c6; have k7 := N0.rc.c7)
    go_ret
    exact ⟨rfl, N0.below⟩
  · rw [if_neg k1]
    have k1' : ¬ (16 : Int) < s.ky.size := by omega
    by_cases k2 : 32 < s.ol.size
    · rw [if_pos (Or.inl k2)]
      have k2' : (32 : Int) < s.ol.size := by omega
      go_enter Try.func24, Try.ntmps24
      go_wp2_with (refine wpList_box_rc (s := s) (I := _) (T := _) _ rfl _ rfl rfl ?_; intro w0 b0 N0; have k0 := N0.rc.c0; have k4 := N0.rc.c4; have k5 := N0.rc.c5; have k6 := N0.rc.c6; have k7 := N0.rc.c7)
      go_ret
      exact ⟨rfl, N0.below⟩
    · have k2' : ¬ (32 : Int) < s.ol.size := by omega
      by_cases k3 : 32 < s.nw.size
      · rw [if_pos (Or.inr k3)]
        have k3' : (32 : Int) < s.nw.size := by omega
        go_enter Try.func24, Try.ntmps24
        go_wp2_with (refine wpList_box_rc (s := s) (I := _) (T := _) _ rfl _ rfl rfl ?_; intro w0 b0 N0; have k0 := N0.rc.c0; have k4 := N0.rc.c4; have k5 := N0.rc.c5; have k6 := N0.rc.c6; have k7 := N0.rc.c7)
        go_ret
        exact ⟨rfl, N0.below⟩
      · rw [if_neg (by omega)]
        have k3' : ¬ (32 : Int) < s.nw.size := by omega
        go_enter Try.func24, Try.ntmps24
        go_wp2_with (refine wpList_box_rc (s := s) (I := _) (T := _) _ rfl _ rfl rfl ?_; intro w0 b0 N0; have k0 := N0.rc.c0; have k4 := N0.rc.c4; have k5 := N0.rc.c5; have k6 := N0.rc.c6; have k7 := N0.rc.c7)
        go_ret
        exact ⟨rfl, N0.below⟩
set_option maxHeartbeats 1000000 in
theorem ahead_t7 (hk : s.kd = 7) (hy : s.ky.size ≤ 9223372036854775807) (ho : s.ol.size ≤ 9223372036854775807) (hw : s.nw.size ≤ 9223372036854775807) : Calls Try.prog 24 #[.agg (s.A I T)] w fun r w' => r = .returned (.int .i64 (refT s)) ∧ Below w.heap.size w w' := by
  have e1 : (s.kd == 1) = false := by rw [hk]; rfl
  have e2 : (s.kd == 2) = false := by rw [hk]; rfl
  have e6 : (s.kd == 6) = false := by rw [hk]; rfl
  have e3 : (s.kd == 3) = false := by rw [hk]; rfl
  have e4 : (s.kd == 4) = false := by rw [hk]; rfl
  have e5 : (s.kd == 5) = false := by rw [hk]; rfl
  have e7 : (s.kd == 7) = true := by rw [hk]; rfl
  clear hk
  unfold refT
  by_cases k1 : 16 < s.ky.size
  · rw [if_pos k1]
    have k1' : (16 : Int) < s.ky.size := by omega
    go_enter Try.func24, Try.ntmps24
    go_wp2_with (refine wpList_box_rc (s := s) (I := _) (T := _) _ rfl _ rfl rfl ?_; intro w0 b0 N0; have k0 := N0.rc.c0; have k5 := N0.rc.c5; have k6 := N0.rc.c6; have k7 := N0.rc.c7)
    go_ret
    exact ⟨rfl, N0.below⟩
  · rw [if_neg k1]
    have k1' : ¬ (16 : Int) < s.ky.size := by omega
    by_cases k2 : 32 < s.ol.size
    · rw [if_pos (Or.inl k2)]
      have k2' : (32 : Int) < s.ol.size := by omega
      go_enter Try.func24, Try.ntmps24
      go_wp2_with (refine wpList_box_rc (s := s) (I := _) (T := _) _ rfl _ rfl rfl ?_; intro w0 b0 N0; have k0 := N0.rc.c0; have k5 := N0.rc.c5; have k6 := N0.rc.c6; have k7 := N0.rc.c7)
      go_ret
      exact ⟨rfl, N0.below⟩
    · have k2' : ¬ (32 : Int) < s.ol.size := by omega
      by_cases k3 : 32 < s.nw.size
      · rw [if_pos (Or.inr k3)]
        have k3' : (32 : Int) < s.nw.size := by omega
        go_enter Try.func24, Try.ntmps24
        go_wp2_with (refine wpList_box_rc (s := s) (I := _) (T := _) _ rfl _ rfl rfl ?_; intro w0 b0 N0; have k0 := N0.rc.c0; have k5 := N0.rc.c5; have k6 := N0.rc.c6; have k7 := N0.rc.c7)
        go_ret
        exact ⟨rfl, N0.below⟩
      · rw [if_neg (by omega)]
        have k3' : ¬ (32 : Int) < s.nw.size := by omega
        go_enter Try.func24, Try.ntmps24
        go_wp2_with (refine wpList_box_rc (s := s) (I := _) (T := _) _ rfl _ rfl rfl ?_; intro w0 b0 N0; have k0 := N0.rc.c0; have k5 := N0.rc.c5; have k6 := N0.rc.c6; have k7 := N0.rc.c7)
        go_ret
        exact ⟨rfl, N0.below⟩
set_option maxHeartbeats 1000000 in
theorem ahead_t8 (hk : s.kd = 8) (hy : s.ky.size ≤ 9223372036854775807) (ho : s.ol.size ≤ 9223372036854775807) (hw : s.nw.size ≤ 9223372036854775807) : Calls Try.prog 24 #[.agg (s.A I T)] w fun r w' => r = .returned (.int .i64 (refT s)) ∧ Below w.heap.size w w' := by
  have e1 : (s.kd == 1) = false := by rw [hk]; rfl
  have e2 : (s.kd == 2) = false := by rw [hk]; rfl
  have e6 : (s.kd == 6) = false := by rw [hk]; rfl
  have e3 : (s.kd == 3) = false := by rw [hk]; rfl
  have e4 : (s.kd == 4) = false := by rw [hk]; rfl
  have e5 : (s.kd == 5) = false := by rw [hk]; rfl
  have e7 : (s.kd == 7) = false := by rw [hk]; rfl
  have e8 : (s.kd == 8) = true := by rw [hk]; rfl
  clear hk
  unfold refT
  by_cases k1 : 16 < s.ky.size
  · rw [if_pos k1]
    have k1' : (16 : Int) < s.ky.size := by omega
    go_enter Try.func24, Try.ntmps24
    go_wp2_with (refine wpList_box_rc (s := s) (I := _) (T := _) _ rfl _ rfl rfl ?_; intro w0 b0 N0; have k0 := N0.rc.c0; have k5 := N0.rc.c5; have k6 := N0.rc.c6; have k7 := N0.rc.c7)
    go_ret
    exact ⟨rfl, N0.below⟩
  · rw [if_neg k1]
    have k1' : ¬ (16 : Int) < s.ky.size := by omega
    by_cases k2 : 32 < s.ol.size
    · rw [if_pos (Or.inl k2)]
      have k2' : (32 : Int) < s.ol.size := by omega
      go_enter Try.func24, Try.ntmps24
      go_wp2_with (refine wpList_box_rc (s := s) (I := _) (T := _) _ rfl _ rfl rfl ?_; intro w0 b0 N0; have k0 := N0.rc.c0; have k5 := N0.rc.c5; have k6 := N0.rc.c6; have k7 := N0.rc.c7)
      go_ret
      exact ⟨rfl, N0.below⟩
    · have k2' : ¬ (32 : Int) < s.ol.size := by omega
      by_cases k3 : 32 < s.nw.size
      · rw [if_pos (Or.inr k3)]
        have k3' : (32 : Int) < s.nw.size := by omega
        go_enter Try.func24, Try.ntmps24
        go_wp2_with (refine wpList_box_rc (s := s) (I := _) (T := _) _ rfl _ rfl rfl ?_; intro w0 b0 N0; have k0 := N0.rc.c0; have k5 := N0.rc.c5; have k6 := N0.rc.c6; have k7 := N0.rc.c7)
        go_ret
        exact ⟨rfl, N0.below⟩
      · rw [if_neg (by omega)]
        have k3' : ¬ (32 : Int) < s.nw.size := by omega
        go_enter Try.func24, Try.ntmps24
        go_wp2_with (refine wpList_box_rc (s := s) (I := _) (T := _) _ rfl _ rfl rfl ?_; intro w0 b0 N0; have k0 := N0.rc.c0; have k5 := N0.rc.c5; have k6 := N0.rc.c6; have k7 := N0.rc.c7)
        go_ret
        exact ⟨rfl, N0.below⟩
set_option maxHeartbeats 1000000 in
theorem ahead_t9 (hk : s.kd = 9) (hy : s.ky.size ≤ 9223372036854775807) (ho : s.ol.size ≤ 9223372036854775807) (hw : s.nw.size ≤ 9223372036854775807) : Calls Try.prog 24 #[.agg (s.A I T)] w fun r w' => r = .returned (.int .i64 (refT s)) ∧ Below w.heap.size w w' := by
  have e1 : (s.kd == 1) = false := by rw [hk]; rfl
  have e2 : (s.kd == 2) = false := by rw [hk]; rfl
  have e6 : (s.kd == 6) = false := by rw [hk]; rfl
  have e3 : (s.kd == 3) = false := by rw [hk]; rfl
  have e4 : (s.kd == 4) = false := by rw [hk]; rfl
  have e5 : (s.kd == 5) = false := by rw [hk]; rfl
  have e7 : (s.kd == 7) = false := by rw [hk]; rfl
  have e8 : (s.kd == 8) = false := by rw [hk]; rfl
  have e9 : (s.kd == 9) = true := by rw [hk]; rfl
  clear hk
  unfold refT
  by_cases k1 : 16 < s.ky.size
  · rw [if_pos k1]
    have k1' : (16 : Int) < s.ky.size := by omega
    go_enter Try.func24, Try.ntmps24
    go_wp2_with (refine wpList_box_rc (s := s) (I := _) (T := _) _ rfl _ rfl rfl ?_; intro w0 b0 N0; have k0 := N0.rc.c0; have k5 := N0.rc.c5; have k6 := N0.rc.c6; have k7 := N0.rc.c7)
    go_ret
    exact ⟨rfl, N0.below⟩
  · rw [if_neg k1]
    have k1' : ¬ (16 : Int) < s.ky.size := by omega
    by_cases k2 : 32 < s.ol.size
    · rw [if_pos (Or.inl k2)]
      have k2' : (32 : Int) < s.ol.size := by omega
      go_enter Try.func24, Try.ntmps24
      go_wp2_with (refine wpList_box_rc (s := s) (I := _) (T := _) _ rfl _ rfl rfl ?_; intro w0 b0 N0; have k0 := N0.rc.c0; have k5 := N0.rc.c5; have k6 := N0.rc.c6; have k7 := N0.rc.c7)
      go_ret
      exact ⟨rfl, N0.below⟩
    · have k2' : ¬ (32 : Int) < s.ol.size := by omega
      by_cases k3 : 32 < s.nw.size
      · rw [if_pos (Or.inr k3)]
        have k3' : (32 : Int) < s.nw.size := by omega
        go_enter Try.func24, Try.ntmps24
        go_wp2_with (refine wpList_box_rc (s := s) (I := _) (T := _) _ rfl _ rfl rfl ?_; intro w0 b0 N0; have k0 := N0.rc.c0; have k5 := N0.rc.c5; have k6 := N0.rc.c6; have k7 := N0.rc.c7)
        go_ret
        exact ⟨rfl, N0.below⟩
      · rw [if_neg (by omega)]
        have k3' : ¬ (32 : Int) < s.nw.size := by omega
        go_enter Try.func24, Try.ntmps24
        go_wp2_with (refine wpList_box_rc (s := s) (I := _) (T := _) _ rfl _ rfl rfl ?_; intro w0 b0 N0; have k0 := N0.rc.c0; have k5 := N0.rc.c5; have k6 := N0.rc.c6; have k7 := N0.rc.c7)
        go_ret
        exact ⟨rfl, N0.below⟩
set_option maxHeartbeats 1000000 in
theorem ahead_t10 (hk : s.kd = 10) (hy : s.ky.size ≤ 9223372036854775807) (ho : s.ol.size ≤ 9223372036854775807) (hw : s.nw.size ≤ 9223372036854775807) : Calls Try.prog 24 #[.agg (s.A I T)] w fun r w' => r = .returned (.int .i64 (refT s)) ∧ Below w.heap.size w w' := by
  have e1 : (s.kd == 1) = false := by rw [hk]; rfl
  have e2 : (s.kd == 2) = false := by rw [hk]; rfl
  have e6 : (s.kd == 6) = false := by rw [hk]; rfl
  have e3 : (s.kd == 3) = false := by rw [hk]; rfl
  have e4 : (s.kd == 4) = false := by rw [hk]; rfl
  have e5 : (s.kd == 5) = false := by rw [hk]; rfl
  have e7 : (s.kd == 7) = false := by rw [hk]; rfl
  have e8 : (s.kd == 8) = false := by rw [hk]; rfl
  have e9 : (s.kd == 9) = false := by rw [hk]; rfl
  have e10 : (s.kd == 10) = true := by rw [hk]; rfl
  clear hk
  unfold refT
  by_cases k1 : 16 < s.ky.size
  · rw [if_pos k1]
    have k1' : (16 : Int) < s.ky.size := by omega
    go_enter Try.func24, Try.ntmps24
    go_wp2_with (refine wpList_box_rc (s := s) (I := _) (T := _) _ rfl _ rfl rfl ?_; intro w0 b0 N0; have k0 := N0.rc.c0; have k5 := N0.rc.c5; have k6 := N0.rc.c6; have k7 := N0.rc.c7)
    go_ret
    exact ⟨rfl, N0.below⟩
  · rw [if_neg k1]
    have k1' : ¬ (16 : Int) < s.ky.size := by omega
    by_cases k2 : 32 < s.ol.size
    · rw [if_pos (Or.inl k2)]
      have k2' : (32 : Int) < s.ol.size := by omega
      go_enter Try.func24, Try.ntmps24
      go_wp2_with (refine wpList_box_rc (s := s) (I := _) (T := _) _ rfl _ rfl rfl ?_; intro w0 b0 N0; have k0 := N0.rc.c0; have k5 := N0.rc.c5; have k6 := N0.rc.c6; have k7 := N0.rc.c7)
      go_ret
      exact ⟨rfl, N0.below⟩
    · have k2' : ¬ (32 : Int) < s.ol.size := by omega
      by_cases k3 : 32 < s.nw.size
      · rw [if_pos (Or.inr k3)]
        have k3' : (32 : Int) < s.nw.size := by omega
        go_enter Try.func24, Try.ntmps24
        go_wp2_with (refine wpList_box_rc (s := s) (I := _) (T := _) _ rfl _ rfl rfl ?_; intro w0 b0 N0; have k0 := N0.rc.c0; have k5 := N0.rc.c5; have k6 := N0.rc.c6; have k7 := N0.rc.c7)
        go_ret
        exact ⟨rfl, N0.below⟩
      · rw [if_neg (by omega)]
        have k3' : ¬ (32 : Int) < s.nw.size := by omega
        go_enter Try.func24, Try.ntmps24
        go_wp2_with (refine wpList_box_rc (s := s) (I := _) (T := _) _ rfl _ rfl rfl ?_; intro w0 b0 N0; have k0 := N0.rc.c0; have k5 := N0.rc.c5; have k6 := N0.rc.c6; have k7 := N0.rc.c7)
        go_ret
        exact ⟨rfl, N0.below⟩
end
theorem ahead_any {w : World} {v : Value} {m : Rm} (h : RecV w v m) (hi : m.im.length ≤ 1000) (ht : ∀ p ∈ m.im, p.2.size ≤ 9223372036854775807) (hy : m.s.ky.size ≤ 9223372036854775807) (ho : m.s.ol.size ≤ 9223372036854775807) (hw : m.s.nw.size ≤ 9223372036854775807)
    (hc : m.s.kd = 1 ∨ m.s.kd = 2 → m.s.ky.size = 0 ∧ m.s.ol.size = 0 ∧ m.s.nw.size = 0) : Calls Try.prog 24 #[v] w fun r w' => r = .returned (.int .i64 (refM m)) ∧ Below w.heap.size w w' := by
  obtain ⟨s, l, g⟩ := m
  obtain ⟨I, T, rfl, hI, hT⟩ := h.ex
  dsimp only at *
  have big : ∀ (h1 : 1 ≤ s.kd) (h2 : s.kd ≤ 10) (hf : formed ⟨s, l, g⟩ = true), refM ⟨s, l, g⟩ = refT s := by
    intro h1 h2 hf
    unfold refM refT
    dsimp only
    rw [if_neg (by omega), if_neg (by rw [hf]; decide)]
  by_cases h12 : s.kd = 1 ∨ s.kd = 2
  · obtain ⟨c1, c2, c3⟩ := hc h12
    obtain ⟨a, c, rfl, hcs, _⟩ := hI.ex
    have hr : (s.kd = 1 → l.length = 1) → refM ⟨s, l, g⟩ = refI l := by
      intro hl
      unfold refM refI
      dsimp only
      have hf : formed ⟨s, l, g⟩ = whole l := by
        unfold formed
        dsimp only
        rcases h12 with h | h
        · rw [if_pos h]; simp [hl h]
        · rw [if_neg (by omega), if_pos h]
      rw [hf, if_neg (by omega)]
      cases whole l
      · simp
      · simp [c1, c2, c3]
    by_cases h1 : s.kd = 1 ∧ l.length ≠ 1
    · have : refM ⟨s, l, g⟩ = 4 := by
        unfold refM formed
        dsimp only
        rw [if_neg (by omega), if_pos]
        rw [if_pos h1.1]
        simp [h1.2]
      rw [this]
      exact ahead_1 h1.1 h1.2
    · have hl : s.kd = 1 → l.length = 1 := by intro e; rcases Classical.em (l.length = 1) with x | x; exact x; exact absurd ⟨e, x⟩ h1
      rw [hr hl]
      exact ahead_im h12 hl hi hcs ht
  have n1 : s.kd ≠ 1 := fun e => h12 (Or.inl e)
  have n2 : s.kd ≠ 2 := fun e => h12 (Or.inr e)
  have ftriv : s.kd ≠ 6 → formed ⟨s, l, g⟩ = true := by intro h6; simp [formed, n1, n2, h6]
  by_cases h6 : s.kd = 6
  · by_cases ha : s.ac < 3 ∨ 5 < s.ac
    · have : refM ⟨s, l, g⟩ = 4 := by
        unfold refM formed
        dsimp only
        rw [if_neg (by omega), if_pos]
        rw [if_neg n1, if_neg n2, if_pos h6]
        simp; omega
      rw [this]
      exact ahead_6 h6 ha
    · rw [big (by omega) (by omega) (by unfold formed; dsimp only; rw [if_neg n1, if_neg n2, if_pos h6]; simp; omega)]
      exact ahead_t6 h6 (by omega) (by omega) hy ho hw
  by_cases h3 : s.kd = 3
  · rw [big (by omega) (by omega) (ftriv h6)]; exact ahead_t3 h3 hy ho hw
  by_cases h4 : s.kd = 4
  · rw [big (by omega) (by omega) (ftriv h6)]; exact ahead_t4 h4 hy ho hw
  by_cases h5 : s.kd = 5
  · rw [big (by omega) (by omega) (ftriv h6)]; exact ahead_t5 h5 hy ho hw
  by_cases h7 : s.kd = 7
  · rw [big (by omega) (by omega) (ftriv h6)]; exact ahead_t7 h7 hy ho hw
  by_cases h8 : s.kd = 8
  · rw [big (by omega) (by omega) (ftriv h6)]; exact ahead_t8 h8 hy ho hw
  by_cases h9 : s.kd = 9
  · rw [big (by omega) (by omega) (ftriv h6)]; exact ahead_t9 h9 hy ho hw
  by_cases h10 : s.kd = 10
  · rw [big (by omega) (by omega) (ftriv h6)]; exact ahead_t10 h10 hy ho hw
  · have : refM ⟨s, l, g⟩ = 1 := by
      unfold refM
      dsimp only
      rw [if_pos (by omega)]
    rw [this]
    exact ahead_o n1 n2 h3 h4 h5 h6 h7 h8 h9 h10
end Go.Proofs.Ytakdfdnndogaiaa
