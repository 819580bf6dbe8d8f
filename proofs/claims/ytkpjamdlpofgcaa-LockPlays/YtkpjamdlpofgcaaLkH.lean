/- Right, the law's right, isEnoughFor. -/
import Derived.Test.YtkpjamdlpofgcaaLkG
namespace Go.Proofs.Ytkpjamdlpofgcaa
open Go.RowKit
set_option linter.unusedVariables false
set_option linter.unusedSimpArgs false
set_option maxRecDepth 100000
theorem bl1 {w : World} (o : Obj) : Below w.heap.size w (w.alloc o) := (Below.refl _ _).alloc (Nat.le_refl _) _
theorem bl2 {w : World} (o o' : Obj) : Below w.heap.size w ((w.alloc o).alloc o') := ((Below.refl _ _).alloc (Nat.le_refl _) _).alloc (by simp) _
theorem eqB_e (a : ByteArray) : (a.toList == ({ data := #[] } : ByteArray).toList) = eqB a ByteArray.empty := rfl
theorem enough_any (w : World) (a b : Hd) : Calls Try.prog 37 #[.agg a.A, .agg b.A] w fun e w' => e = .returned (.bool (enoM a b)) ∧ Below w.heap.size w w' := by
  unfold enoM
  have hn : leB a.lo b.lo = !ltB b.lo a.lo := by rw [ltB_not]; simp
  rw [hn]
  clear hn
  obtain ⟨ax, am, alo, ahi, aop⟩ := a
  obtain ⟨bx, bm, blo, bhi, bop⟩ := b
  unfold Hd.A ltB leB ltB eqB
  simp only
  by_cases h1 : ax = bx
  · subst h1
    by_cases h2 : am < bm
    · have h2' : ¬ bm ≤ am := by omega
      go_enter Try.func37, Try.ntmps37
      go_wp2
      all_goals go_ret
      all_goals exact ⟨by first | (have q : ¬ bm ≤ am := (by omega); simp [q]; done) | (have q : bm ≤ am := (by omega); simp [q]; done), bl2 _ _⟩
    · have h2' : bm ≤ am := by omega
      cases h3 : Op.bytesLess blo.toList alo.toList
      · cases aop <;> cases bop
        all_goals
          go_enter Try.func37, Try.ntmps37
          go_wp2
          go_ret
          exact ⟨by first | (have q : ¬ bm ≤ am := (by omega); simp [q]; done) | (have q : bm ≤ am := (by omega); simp [q]; done), bl2 _ _⟩
      · go_enter Try.func37, Try.ntmps37
        go_wp2
        all_goals go_ret
        all_goals exact ⟨by first | (have q : ¬ bm ≤ am := (by omega); simp [q]; done) | (have q : bm ≤ am := (by omega); simp [q]; done), bl2 _ _⟩
  · go_enter Try.func37, Try.ntmps37
    go_wp2
    all_goals go_ret
    all_goals exact ⟨by simp [h1], bl2 _ _⟩
set_option maxHeartbeats 2000000 in
theorem Right_any (w : World) (h : Hd) : Calls Try.prog 8 #[.agg h.A] w fun e w' => e = .returned (.bool (rightM h)) ∧ Below w.heap.size w w' := by
  unfold rightM
  obtain ⟨x, m, lo, hi, op⟩ := h
  unfold Hd.A leB ltB eqB
  simp only
  by_cases h1 : x ≤ 0
  · have h1' : ¬ 1 ≤ x := by omega
    go_enter Try.func8, Try.ntmps8
    go_wp2
    all_goals go_ret
    all_goals exact ⟨by (have q : ¬ 1 ≤ x := (by omega)); simp [q], bl1 _⟩
  · have h1' : 1 ≤ x := by omega
    by_cases h2 : m = 1 ∨ m = 2
    · by_cases h3 : 16 < lo.size
      · have h3' : ¬ lo.size ≤ 16 := by omega
        have h3i : (16 : Int) < (lo.size : Int) := by omega
        rcases h2 with rfl | rfl
        all_goals
          go_enter Try.func8, Try.ntmps8
          go_wp2
          all_goals go_ret
          all_goals exact ⟨by (have q : ¬ lo.size ≤ 16 := (by omega)); simp [q], bl1 _⟩
      · have h3' : lo.size ≤ 16 := by omega
        have h3i : ¬ (16 : Int) < (lo.size : Int) := by omega
        by_cases h4 : 16 < hi.size
        · have h4' : ¬ hi.size ≤ 16 := by omega
          have h4i : (16 : Int) < (hi.size : Int) := by omega
          rcases h2 with rfl | rfl
          all_goals
            go_enter Try.func8, Try.ntmps8
            go_wp2
            all_goals go_ret
            all_goals exact ⟨by (have q : ¬ hi.size ≤ 16 := (by omega)); simp [q], bl1 _⟩
        · have h4' : hi.size ≤ 16 := by omega
          have h4i : ¬ (16 : Int) < (hi.size : Int) := by omega
          rcases h2 with rfl | rfl <;> cases op
          all_goals
            go_enter Try.func8, Try.ntmps8
            go_wp2
            go_ret
            exact ⟨by (have q1 : 1 ≤ x := (by omega)); (have q2 : lo.size ≤ 16 := (by omega)); (have q3 : hi.size ≤ 16 := (by omega)); simp [q1, q2, q3], bl1 _⟩
    · have h5 : ¬ m = 1 := fun e => h2 (Or.inl e)
      have h6 : ¬ m = 2 := fun e => h2 (Or.inr e)
      have h7 : (m != 1) = true := by simp [h5]
      have h8 : (m != 2) = true := by simp [h6]
      go_enter Try.func8, Try.ntmps8
      go_wp2
      all_goals go_ret
      all_goals first | exact ⟨by simp [h5, h6], bl1 _⟩ | (exfalso; simp_all; done)
set_option maxHeartbeats 2000000 in
theorem right_any (w : World) (h : Hd) : Calls Try.prog 9 #[.agg h.A] w fun e w' => e = .returned (.bool (rightM h)) ∧ Below w.heap.size w w' := by
  unfold rightM
  obtain ⟨x, m, lo, hi, op⟩ := h
  unfold Hd.A leB ltB eqB
  simp only
  by_cases h1 : x < 1
  · have h1' : ¬ 1 ≤ x := by omega
    go_enter Try.func9, Try.ntmps9
    go_wp2
    all_goals go_ret
    all_goals exact ⟨by (have q : ¬ 1 ≤ x := (by omega)); simp [q], bl1 _⟩
  · have h1' : 1 ≤ x := by omega
    by_cases h2 : m = 1 ∨ m = 2
    · by_cases h3 : 16 < lo.size
      · have h3' : ¬ lo.size ≤ 16 := by omega
        have h3i : (16 : Int) < (lo.size : Int) := by omega
        rcases h2 with rfl | rfl
        all_goals
          go_enter Try.func9, Try.ntmps9
          go_wp2
          all_goals go_ret
          all_goals exact ⟨by (have q : ¬ lo.size ≤ 16 := (by omega)); simp [q], bl1 _⟩
      · have h3' : lo.size ≤ 16 := by omega
        have h3i : ¬ (16 : Int) < (lo.size : Int) := by omega
        by_cases h4 : 16 < hi.size
        · have h4' : ¬ hi.size ≤ 16 := by omega
          have h4i : (16 : Int) < (hi.size : Int) := by omega
          rcases h2 with rfl | rfl
          all_goals
            go_enter Try.func9, Try.ntmps9
            go_wp2
            all_goals go_ret
            all_goals exact ⟨by (have q : ¬ hi.size ≤ 16 := (by omega)); simp [q], bl1 _⟩
        · have h4' : hi.size ≤ 16 := by omega
          have h4i : ¬ (16 : Int) < (hi.size : Int) := by omega
          rcases h2 with rfl | rfl <;> cases op
          all_goals
            go_enter Try.func9, Try.ntmps9
            go_wp2
            go_ret
            exact ⟨by (have q1 : 1 ≤ x := (by omega)); (have q2 : lo.size ≤ 16 := (by omega)); (have q3 : hi.size ≤ 16 := (by omega)); simp [q1, q2, q3], bl1 _⟩
    · have h5 : ¬ m = 1 := fun e => h2 (Or.inl e)
      have h6 : ¬ m = 2 := fun e => h2 (Or.inr e)
      have h7 : (m != 1) = true := by simp [h5]
      have h8 : (m != 2) = true := by simp [h6]
      go_enter Try.func9, Try.ntmps9
      go_wp2
      all_goals go_ret
      all_goals first | exact ⟨by simp [h5, h6], bl1 _⟩ | (exfalso; simp_all; done)
end Go.Proofs.Ytkpjamdlpofgcaa
