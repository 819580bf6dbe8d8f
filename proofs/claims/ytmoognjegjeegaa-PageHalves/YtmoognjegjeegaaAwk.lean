/- New, and chapter 5's example: awake. -/
import Derived.Test.YtmoognjegjeegaaMak
namespace Go.Proofs.Ytmoognjegjeegaa
open Go.RowKit
set_option linter.unusedVariables false
set_option linter.unusedSimpArgs false
set_option maxRecDepth 100000

theorem New_arg (w : World) (k l : Int) (h : fit k l = false) : Calls Try.prog 24 #[.int .i64 k, .int .i64 l] w fun e w' => e = .returned (.tuple #[.string ⟨#[]⟩, .int .i64 1]) ∧ Below w.heap.size w w' := by
  have C : Hid (∀ w, Calls Try.prog 23 #[.int .i64 k, .int .i64 l, .slice none 0 0] w fun e w' => e = .returned (.tuple #[.string ⟨#[]⟩, .int .i64 1]) ∧ Below w.heap.size w w') := fun w => Make_arg w k l _ h
  clear h
  go_enter Try.func24, Try.ntmps24
  go_wp2_with (go_at_call 23; refine (C.out _).mono ?_; rintro e w1 ⟨rfl, hb1⟩)
  go_ret2
  exact ⟨rfl, hb1⟩
theorem New_any (w : World) (k l : Nat) (h1 : k ≤ 2) (h2 : l ≤ 255) (h3 : k = 2 ∨ l = 0) : Calls Try.prog 24 #[.int .i64 (k : Int), .int .i64 (l : Int)] w fun e w' => e = .returned (.tuple #[.string (tx (packS k l [])), .int .i64 0]) ∧ Below w.heap.size w w' := by
  have C : Hid (∀ w, Calls Try.prog 23 #[.int .i64 (k : Int), .int .i64 (l : Int), .slice none 0 0] w fun e w' => e = .returned (.tuple #[.string (tx (packS k l [])), .int .i64 0]) ∧ Below w.heap.size w w') := fun w => by
    have := Make_any w k l 0 (Cs.nil w none) h1 h2 h3 (by simp)
    exact this
  generalize tx (packS k l []) = R at *
  go_enter Try.func24, Try.ntmps24
  go_wp2_with (go_at_call 23; refine (C.out _).mono ?_; rintro e w1 ⟨rfl, hb1⟩)
  go_ret2
  exact ⟨rfl, hb1⟩
def exC : Cl := ⟨⟨#[97]⟩, ⟨#[98]⟩⟩
theorem ex_bytes : packS 1 0 [exC] = [1, 0, 1, 8, 1, 1, 97, 98] ++ List.replicate 215 0 ++ [4] := by kernel_rfl
theorem ex_bad : firstBad 1 [exC] = 0 := by kernel_rfl
theorem ex_size : (tx (packS 1 0 [exC])).size = 224 := by rw [tx_size, ex_bytes]; simp
theorem ex_head : ((tx (packS 1 0 [exC])).extract 0 8) = ⟨#[1, 0, 1, 8, 1, 1, 97, 98]⟩ := by kernel_rfl
theorem ex_last (h : 223 < (tx (packS 1 0 [exC])).size) : ((tx (packS 1 0 [exC]))[223]'h).toNat = 4 := by
  have : ∀ (s : List UInt8) (hs : s = [1, 0, 1, 8, 1, 1, 97, 98] ++ List.replicate 215 0 ++ [4]) (h : 223 < (tx s).size), ((tx s)[223]'h).toNat = 4 := fun s hs h => by subst hs; rfl
  exact this _ ex_bytes h
theorem awake_any (w : World) : Calls Try.prog 18 #[] w fun e w' => e = .returned (.bool true) ∧ Below w.heap.size w w' := by
  have C : Hid (∀ w a, Cs w a [exC] → Calls Try.prog 23 #[.int .i64 1, .int .i64 0, .slice a 1 1] w fun e w' => e = .returned (.tuple #[.string (tx (packS 1 0 [exC])), .int .i64 0]) ∧ Below w.heap.size w w') := fun w a h => by
    have := Make_any w 1 0 1 h (by omega) (by omega) (by omega) (by simp)
    rw [ex_bad] at this
    exact this
  have h1 := ex_size
  have h2 := ex_head
  have h3 : Hid _ := ex_last
  generalize tx (packS 1 0 [exC]) = P at *
  go_enter Try.func18, Try.ntmps18
  go_wp2_with (go_at_call 23; refine (C.out _ _ ?_).mono ?_; exact ⟨fun i hi => by simp at hi; subst hi; exact ⟨_, 0, rfl, by simp, by simp; rfl, by simp; rfl⟩⟩; rintro e w1 ⟨rfl, hb1⟩)
  go_ret
  refine ⟨?_, thn (thnA (Below.refl _ _) _) hb1⟩
  have h4 := h3.out (by omega)
  show Ending.returned (Value.bool (((P[223]'(by omega)).toNat : Int) == 4)) = _
  rw [h4]
  rfl
end Go.Proofs.Ytmoognjegjeegaa
