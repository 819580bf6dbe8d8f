/- How a disk's sectors are parted; awake; BasePlans. -/
import Derived.Test.YtljedbakdlhlbaaProg
import Derived.WalkKit
import Derived.ProofKit
import Derived.WalkSpells
import Derived.WalkLawsBesides
import Derived.OwnWalk
import Derived.Below
namespace Go.Proofs.Ytljedbakdlhlbaa
open Go.RowKit
set_option linter.unusedVariables false
set_option linter.unusedSimpArgs false
set_option maxRecDepth 100000

theorem Plan_small (n : Int) (h : n < 1) (w : World) : Calls Try.prog 19 #[.int .i64 n] w fun e w' => e = .returned (.tuple #[.int .i64 0, .int .i64 0, .int .i64 0]) ∧ w' = w := by
  go_enter Try.func19, Try.ntmps19
  go_wp2
  go_ret3
  exact ⟨rfl, rfl⟩
theorem Plan_many (n : Int) (h : 1 ≤ n) (hn : n ≤ 9223372036854775807) (hm : 200 < (n - 1 - (n - 1) / 2) / 4) (w : World) : Calls Try.prog 19 #[.int .i64 n] w fun e w' => e = .returned (.tuple #[.int .i64 ((n - 1) / 2), .int .i64 (1 + (n - 1) / 2), .int .i64 200]) ∧ w' = w := by
  go_enter Try.func19, Try.ntmps19
  go_wp2
  all_goals (go_ret3; exact ⟨rfl, rfl⟩)
theorem Plan_few (n : Int) (h : 1 ≤ n) (hn : n ≤ 9223372036854775807) (hm : ¬ 200 < (n - 1 - (n - 1) / 2) / 4) (w : World) : Calls Try.prog 19 #[.int .i64 n] w fun e w' => e = .returned (.tuple #[.int .i64 ((n - 1) / 2), .int .i64 (1 + (n - 1) / 2), .int .i64 ((n - 1 - (n - 1) / 2) / 4)]) ∧ w' = w := by
  go_enter Try.func19, Try.ntmps19
  go_wp2
  all_goals (go_ret3; first | exact ⟨rfl, rfl⟩ | exact ⟨by congr 3; simp; omega, rfl⟩)
theorem awake9 (w : World) : Calls Try.prog 13 #[] w fun e w' => e = .returned (.bool true) ∧ w' = w := by
  have C : Hid (∀ w, Calls Try.prog 19 #[.int .i64 41] w fun e w' => e = .returned (.tuple #[.int .i64 20, .int .i64 21, .int .i64 5]) ∧ w' = w) := fun w => Plan_few 41 (by decide) (by decide) (by decide) w
  go_enter Try.func13, Try.ntmps13
  go_wp2_with (go_at_call 19; refine (C.out _).mono ?_; rintro e w' ⟨rfl, rfl⟩)
  go_ret
  exact ⟨rfl, rfl⟩
theorem plans9_walk (n : Int) (hn : n ≤ 9223372036854775807) (w : World) : Calls Try.prog 7 #[.int .i64 n] w fun e w' => e = .returned (.bool true) ∧ Below w.heap.size w w' := by
  by_cases h : n < 1
  · have C : Hid (∀ w, Calls Try.prog 19 #[.int .i64 n] w fun e w' => e = .returned (.tuple #[.int .i64 0, .int .i64 0, .int .i64 0]) ∧ w' = w) := fun w => Plan_small n h w
    go_enter Try.func7, Try.ntmps7
    go_wp2_with (first | (go_at_call 19; refine (C.out _).mono ?_; rintro e w' ⟨rfl, rfl⟩) | (go_at_call 13; refine (awake9 _).mono ?_; rintro e w' ⟨rfl, rfl⟩))
    go_ret
    exact ⟨rfl, Below.refl _ _⟩
  · by_cases hm : 200 < (n - 1 - (n - 1) / 2) / 4
    · have C : Hid (∀ w, Calls Try.prog 19 #[.int .i64 n] w fun e w' => e = .returned (.tuple #[.int .i64 ((n - 1) / 2), .int .i64 (1 + (n - 1) / 2), .int .i64 200]) ∧ w' = w) := fun w => Plan_many n (by omega) hn hm w
      go_enter Try.func7, Try.ntmps7
      have e1 : (1 + (n - 1) / 2 == (n - 1) / 2 + 1) = true := by simp; omega
      go_wp2_with (first | (go_at_call 19; refine (C.out _).mono ?_; rintro e w' ⟨rfl, rfl⟩) | (go_at_call 13; refine (awake9 _).mono ?_; rintro e w' ⟨rfl, rfl⟩))
      all_goals (go_ret; exact ⟨rfl, Below.refl _ _⟩)
    · have C : Hid (∀ w, Calls Try.prog 19 #[.int .i64 n] w fun e w' => e = .returned (.tuple #[.int .i64 ((n - 1) / 2), .int .i64 (1 + (n - 1) / 2), .int .i64 ((n - 1 - (n - 1) / 2) / 4)]) ∧ w' = w) := fun w => Plan_few n (by omega) hn hm w
      go_enter Try.func7, Try.ntmps7
      have e1 : (1 + (n - 1) / 2 == (n - 1) / 2 + 1) = true := by simp; omega
      go_wp2_with (first | (go_at_call 19; refine (C.out _).mono ?_; rintro e w' ⟨rfl, rfl⟩) | (go_at_call 13; refine (awake9 _).mono ?_; rintro e w' ⟨rfl, rfl⟩))
      all_goals (go_ret; exact ⟨rfl, Below.refl _ _⟩)
end Go.Proofs.Ytljedbakdlhlbaa
