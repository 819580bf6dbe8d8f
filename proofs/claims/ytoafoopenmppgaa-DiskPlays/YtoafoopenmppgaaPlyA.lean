/- The law DiskPlays, walked. -/
import Derived.Test.YtoafoopenmppgaaPly
import Derived.Deep.RegionLaw
namespace Go.Proofs.Ytoafoopenmppgaa
open Go.RowKit Go.Maps Go.ChangeMaps Go.Sort
set_option linter.unusedVariables false
set_option linter.unusedSimpArgs false
set_option maxRecDepth 100000

theorem plays_far (x : Int) (a : Option Addr) (len cap : Nat) (w : World) (hx : 100 < x ∧ x ≤ 8192) : Calls Try.prog 3 #[.int .i64 x, .slice a len cap] w fun e w' => e = .returned (.bool true) ∧ Below w.heap.size w w' := by
  obtain ⟨h1, h2⟩ := hx
  go_enter Try.func3, Try.ntmps3
  go_wp2_with (go_at_call 7; refine (awake_any _).mono ?_; rintro e w3 ⟨rfl, hr⟩)
  go_ret
  exact ⟨rfl, hr⟩
theorem plays_bad (x : Int) (a : Option Addr) (len cap : Nat) (w : World) (hx : x < 1 ∨ 8192 < x) : Calls Try.prog 3 #[.int .i64 x, .slice a len cap] w fun e w' => e = .returned (.bool true) ∧ Below w.heap.size w w' := by
  have C0 : Hid (∀ w, Calls Try.prog 8 #[.int .i64 x] w fun e w' => e = .returned (.tuple #[.pointer none, .int .i64 1]) ∧ w' = w) := fun w => New_bad x hx w
  rcases hx with h1 | h1
  · go_enter Try.func3, Try.ntmps3
    go_wp2_with (first | (go_at_call 8; refine (C0.out _).mono ?_; rintro e w2 ⟨rfl, hw2⟩; subst hw2) | (go_at_call 7; refine (awake_any _).mono ?_; rintro e w3 ⟨rfl, hr⟩))
    go_ret
    exact ⟨rfl, hr⟩
  · go_enter Try.func3, Try.ntmps3
    go_wp2_with (first | (go_at_call 8; refine (C0.out _).mono ?_; rintro e w2 ⟨rfl, hw2⟩; subst hw2) | (go_at_call 7; refine (awake_any _).mono ?_; rintro e w3 ⟨rfl, hr⟩))
    go_ret
    exact ⟨rfl, hr⟩

end Go.Proofs.Ytoafoopenmppgaa
