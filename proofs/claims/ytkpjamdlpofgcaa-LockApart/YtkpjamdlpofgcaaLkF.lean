/- The small functions over holds: the program's and the law's own. -/
import Derived.Test.YtkpjamdlpofgcaaLkA
import Derived.Laws.Cover1
namespace Go.Proofs.Ytkpjamdlpofgcaa
open Go.RowKit
set_option linter.unusedVariables false
set_option linter.unusedSimpArgs false
set_option maxRecDepth 100000

theorem reaches_any (w : World) (h : Hd) (k : ByteArray) : Calls Try.prog 31 #[.agg h.A, .string k] w fun e w' => e = .returned (.bool (reachM h k)) ∧ Below w.heap.size w w' := by
  obtain ⟨x, m, lo, hi, op⟩ := h
  unfold Hd.A reachM
  cases op
  · go_enter Try.func31, Try.ntmps31
    go_wp2
    go_ret
    exact ⟨by simp [leB, ltB, eqB], (Below.refl _ _).alloc (Nat.le_refl _) _⟩
  · go_enter Try.func31, Try.ntmps31
    go_wp2
    go_ret
    exact ⟨by simp [leB, ltB, eqB], (Below.refl _ _).alloc (Nat.le_refl _) _⟩
theorem in_any (w : World) (h : Hd) (k : ByteArray) : Calls Try.prog 15 #[.agg h.A, .string k] w fun e w' => e = .returned (.bool (inM h k)) ∧ Below w.heap.size w w' := by
  obtain ⟨x, m, lo, hi, op⟩ := h
  unfold Hd.A inM
  have hn : leB lo k = !ltB k lo := by rw [ltB_not]; simp
  simp only
  rw [hn]
  clear hn
  cases hl : Op.bytesLess k.toList lo.toList <;> cases op
  all_goals
    go_enter Try.func15, Try.ntmps15
    go_wp2
    go_ret
    exact ⟨by simp [leB, ltB, eqB, hl], (Below.refl _ _).alloc (Nat.le_refl _) _⟩
/-- Two boxes of holds. -/
structure Bx2 (w0 w : World) (a b : Nat) (g h : Hd) : Prop where
  a : HdAt w a g
  b : HdAt w b h
  bel : Below w0.heap.size w0 w
theorem Bx2.new {w w0 w1 : World} {a b : Nat} {g h : Hd} (n0 : NewH w w0 a g) (n1 : NewH w0 w1 b h) : Bx2 w w1 a b g h := ⟨n0.hd.bel n1.below, n1.hd, thn n0.below n1.below⟩
theorem Bx2.bl {w w0 w1 : World} {a b : Nat} {g h : Hd} (n : Bx2 w w0 a b g h) (hb : Below w0.heap.size w0 w1) : Bx2 w w1 a b g h := ⟨n.a.bel hb, n.b.bel hb, thn n.bel hb⟩
theorem meet_any (w : World) (a b : Hd) : Calls Try.prog 11 #[.agg a.A, .agg b.A] w fun e w' => e = .returned (.bool (meetM a b)) ∧ Below w.heap.size w w' := by
  have R : Hid (∀ wx (h : Hd) (k : ByteArray), Calls Try.prog 31 #[.agg h.A, .string k] wx fun e w' => e = .returned (.bool (reachM h k)) ∧ Below wx.heap.size wx w') := fun wx h k => reaches_any wx h k
  unfold meetM
  cases h1 : reachM a b.lo
  · go_enter Try.func11, Try.ntmps11
    go_wp2_with first
      | (refine wpList_box_hd (n := a) _ rfl _ rfl rfl ?_; intro w0 b0 N0)
      | (refine wpList_box_hd (n := b) _ rfl _ rfl rfl ?_; intro w1 b1 N1; have O := Bx2.new N0 N1; have k2 := O.b.c2)
      | (refine wpList_load_hd _ rfl (.tmp 2) rfl rfl O.a ?_)
      | (go_at_call 31; refine (R.out _ a b.lo).mono ?_; rintro e w2 ⟨rfl, q2⟩)
    go_ret
    exact ⟨by simp [h1], thn O.bel q2⟩
  · go_enter Try.func11, Try.ntmps11
    go_wp2_with first
      | (refine wpList_box_hd (n := a) _ rfl _ rfl rfl ?_; intro w0 b0 N0)
      | (refine wpList_box_hd (n := b) _ rfl _ rfl rfl ?_; intro w1 b1 N1; have O := Bx2.new N0 N1; have k2 := O.b.c2)
      | (refine wpList_load_hd _ rfl (.tmp 2) rfl rfl O.a ?_)
      | (have := i2; go_at_call 31; refine (R.out _ b a.lo).mono ?_; rintro e w3 ⟨rfl, q3⟩)
      | (go_at_call 31; refine (R.out _ a b.lo).mono ?_; rintro e w2 ⟨rfl, q2⟩; rw [h1]; have O2 := O.bl q2; have j0 := O2.b.c0; have j1 := O2.b.c1; have j2 := O2.b.c2; have j3 := O2.b.c3; have j4 := O2.b.c4; have i2 := O2.a.c2)
    go_ret
    exact ⟨by simp [h1], thn O2.bel q3⟩
end Go.Proofs.Ytkpjamdlpofgcaa
