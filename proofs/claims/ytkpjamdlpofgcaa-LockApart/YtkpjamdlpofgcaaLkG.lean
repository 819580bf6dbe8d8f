/- Bar, Right, isEnoughFor and the law's own. -/
import Derived.Test.YtkpjamdlpofgcaaLkF
namespace Go.Proofs.Ytkpjamdlpofgcaa
open Go.RowKit
set_option linter.unusedVariables false
set_option linter.unusedSimpArgs false
set_option maxRecDepth 100000

set_option maxHeartbeats 1000000 in
theorem bar_any0 (w : World) (a b : Hd) : Calls Try.prog 13 #[.agg a.A, .agg b.A] w fun e w' => e = .returned (.bool (!(decide (a.x = b.x)) && (decide (a.m = 2) || decide (b.m = 2)) && meetM a b)) ∧ Below w.heap.size w w' := by
  have R : Hid (∀ wx, Calls Try.prog 11 #[.agg a.A, .agg b.A] wx fun e w' => e = .returned (.bool (meetM a b)) ∧ Below wx.heap.size wx w') := fun wx => meet_any wx a b
  generalize meetM a b = r at *
  obtain ⟨ax, am, alo, ahi, aop⟩ := a
  obtain ⟨bx, bm, blo, bhi, bop⟩ := b
  unfold Hd.A at *
  by_cases h1 : ax = bx
  · subst h1
    go_enter Try.func13, Try.ntmps13
    go_wp2
    all_goals go_ret
    all_goals exact ⟨by simp [], ((Below.refl _ _).alloc (Nat.le_refl _) _).alloc (by simp) _⟩
  · by_cases h2 : am = 2
    · subst h2
      go_enter Try.func13, Try.ntmps13
      go_wp2_with (go_at_call 11; refine (R.out _).mono ?_; rintro e w2 ⟨rfl, q2⟩)
      all_goals go_ret
      all_goals exact ⟨by simp [h1], thn (((Below.refl _ _).alloc (Nat.le_refl _) _).alloc (by simp) _) q2⟩
    · by_cases h3 : bm = 2
      · subst h3
        go_enter Try.func13, Try.ntmps13
        go_wp2_with (go_at_call 11; refine (R.out _).mono ?_; rintro e w2 ⟨rfl, q2⟩)
        all_goals go_ret
        all_goals exact ⟨by simp [h1, h2], thn (((Below.refl _ _).alloc (Nat.le_refl _) _).alloc (by simp) _) q2⟩
      · skip
        go_enter Try.func13, Try.ntmps13
        go_wp2
        all_goals go_ret
        all_goals exact ⟨by simp [h1, h2, h3], ((Below.refl _ _).alloc (Nat.le_refl _) _).alloc (by simp) _⟩
theorem bar_any (w : World) (a b : Hd) : Calls Try.prog 13 #[.agg a.A, .agg b.A] w fun e w' => e = .returned (.bool (barM a b)) ∧ Below w.heap.size w w' := bar_any0 w a b
theorem lmeet_any (w : World) (a b : Hd) : Calls Try.prog 12 #[.agg a.A, .agg b.A] w fun e w' => e = .returned (.bool (lmeetM a b)) ∧ Below w.heap.size w w' := by
  have R : Hid (∀ wx (h : Hd) (k : ByteArray), Calls Try.prog 15 #[.agg h.A, .string k] wx fun e w' => e = .returned (.bool (inM h k)) ∧ Below wx.heap.size wx w') := fun wx h k => in_any wx h k
  unfold lmeetM
  have hk : Hid (laterM a b = if leB b.lo a.lo then a.lo else b.lo) := rfl
  generalize laterM a b = key at *
  cases h0 : (Op.bytesLess a.lo.toList b.lo.toList)
  · have hle : leB b.lo a.lo = true := by
      have : ltB a.lo b.lo = false := h0
      rw [ltB_not] at this
      simpa using this
    have ek : key = a.lo := hk.out.trans (by rw [hle]; rfl)
    have h0' : (Op.bytesLess b.lo.toList a.lo.toList || b.lo.toList == a.lo.toList) = true := hle
    subst ek
    clear hk
    cases h1 : inM a a.lo
    · go_enter Try.func12, Try.ntmps12
      go_wp2_with first
        | (refine wpList_box_hd (n := a) _ rfl _ rfl rfl ?_; intro w0 b0 N0)
        | (refine wpList_box_hd (n := b) _ rfl _ rfl rfl ?_; intro w1 b1 N1; have O := Bx2.new N0 N1; have i2 := O.a.c2; have j2 := O.b.c2)
        | (refine wpList_load_hd _ rfl (.tmp 2) rfl rfl O.a ?_)
        | (go_at_call 15; refine (R.out _ a _).mono ?_; rintro e w2 ⟨rfl, q2⟩; rw [h1])
      all_goals go_ret
      all_goals exact ⟨by simp [h1], thn O.bel q2⟩
    · go_enter Try.func12, Try.ntmps12
      go_wp2_with first
        | (refine wpList_box_hd (n := a) _ rfl _ rfl rfl ?_; intro w0 b0 N0)
        | (refine wpList_box_hd (n := b) _ rfl _ rfl rfl ?_; intro w1 b1 N1; have O := Bx2.new N0 N1; have i2 := O.a.c2; have j2 := O.b.c2)
        | (refine wpList_load_hd _ rfl (.tmp 2) rfl rfl O.a ?_)
        | (have := m0; go_at_call 15; refine (R.out _ b _).mono ?_; rintro e w3 ⟨rfl, q3⟩)
        | (go_at_call 15; refine (R.out _ a _).mono ?_; rintro e w2 ⟨rfl, q2⟩; rw [h1]; have O2 := O.bl q2; have m0 := O2.b.c0; have m1 := O2.b.c1; have m2 := O2.b.c2; have m3 := O2.b.c3; have m4 := O2.b.c4)
      all_goals go_ret
      all_goals exact ⟨by simp [h1], thn O2.bel q3⟩
  · have hle : ¬ leB b.lo a.lo = true := by
      have : ltB a.lo b.lo = true := h0
      rw [ltB_not] at this
      simpa using this
    have ek : key = b.lo := hk.out.trans (by rw [if_neg hle])
    have h0' : (Op.bytesLess b.lo.toList a.lo.toList || b.lo.toList == a.lo.toList) = false := by simpa [leB, ltB, eqB] using hle
    subst ek
    clear hk
    cases h1 : inM a b.lo
    · go_enter Try.func12, Try.ntmps12
      go_wp2_with first
        | (refine wpList_box_hd (n := a) _ rfl _ rfl rfl ?_; intro w0 b0 N0)
        | (refine wpList_box_hd (n := b) _ rfl _ rfl rfl ?_; intro w1 b1 N1; have O := Bx2.new N0 N1; have i2 := O.a.c2; have j2 := O.b.c2)
        | (refine wpList_load_hd _ rfl (.tmp 2) rfl rfl O.a ?_)
        | (go_at_call 15; refine (R.out _ a _).mono ?_; rintro e w2 ⟨rfl, q2⟩; rw [h1])
      all_goals go_ret
      all_goals exact ⟨by simp [h1], thn O.bel q2⟩
    · go_enter Try.func12, Try.ntmps12
      go_wp2_with first
        | (refine wpList_box_hd (n := a) _ rfl _ rfl rfl ?_; intro w0 b0 N0)
        | (refine wpList_box_hd (n := b) _ rfl _ rfl rfl ?_; intro w1 b1 N1; have O := Bx2.new N0 N1; have i2 := O.a.c2; have j2 := O.b.c2)
        | (refine wpList_load_hd _ rfl (.tmp 2) rfl rfl O.a ?_)
        | (have := m0; go_at_call 15; refine (R.out _ b _).mono ?_; rintro e w3 ⟨rfl, q3⟩)
        | (go_at_call 15; refine (R.out _ a _).mono ?_; rintro e w2 ⟨rfl, q2⟩; rw [h1]; have O2 := O.bl q2; have m0 := O2.b.c0; have m1 := O2.b.c1; have m2 := O2.b.c2; have m3 := O2.b.c3; have m4 := O2.b.c4)
      all_goals go_ret
      all_goals exact ⟨by simp [h1], thn O2.bel q3⟩
set_option maxHeartbeats 1000000 in
theorem lbar_any0 (w : World) (a b : Hd) : Calls Try.prog 14 #[.agg a.A, .agg b.A] w fun e w' => e = .returned (.bool (!(decide (a.x = b.x)) && (decide (a.m = 2) || decide (b.m = 2)) && lmeetM a b)) ∧ Below w.heap.size w w' := by
  have R : Hid (∀ wx, Calls Try.prog 12 #[.agg a.A, .agg b.A] wx fun e w' => e = .returned (.bool (lmeetM a b)) ∧ Below wx.heap.size wx w') := fun wx => lmeet_any wx a b
  generalize lmeetM a b = r at *
  obtain ⟨ax, am, alo, ahi, aop⟩ := a
  obtain ⟨bx, bm, blo, bhi, bop⟩ := b
  unfold Hd.A at *
  by_cases h1 : ax = bx
  · subst h1
    go_enter Try.func14, Try.ntmps14
    go_wp2
    all_goals go_ret
    all_goals exact ⟨by simp [], ((Below.refl _ _).alloc (Nat.le_refl _) _).alloc (by simp) _⟩
  · by_cases h2 : am = 2
    · subst h2
      go_enter Try.func14, Try.ntmps14
      go_wp2_with (go_at_call 12; refine (R.out _).mono ?_; rintro e w2 ⟨rfl, q2⟩)
      all_goals go_ret
      all_goals exact ⟨by simp [h1], thn (((Below.refl _ _).alloc (Nat.le_refl _) _).alloc (by simp) _) q2⟩
    · by_cases h3 : bm = 2
      · subst h3
        go_enter Try.func14, Try.ntmps14
        go_wp2_with (go_at_call 12; refine (R.out _).mono ?_; rintro e w2 ⟨rfl, q2⟩)
        all_goals go_ret
        all_goals exact ⟨by simp [h1, h2], thn (((Below.refl _ _).alloc (Nat.le_refl _) _).alloc (by simp) _) q2⟩
      · skip
        go_enter Try.func14, Try.ntmps14
        go_wp2
        all_goals go_ret
        all_goals exact ⟨by simp [h1, h2, h3], ((Below.refl _ _).alloc (Nat.le_refl _) _).alloc (by simp) _⟩
theorem lbar_any (w : World) {a b : Hd} (ha : rightM a = true) (hb : rightM b = true) : Calls Try.prog 14 #[.agg a.A, .agg b.A] w fun e w' => e = .returned (.bool (barM a b)) ∧ Below w.heap.size w w' := by
  have := lbar_any0 w a b
  rw [meet_eq ha hb] at this
  exact this
end Go.Proofs.Ytkpjamdlpofgcaa
