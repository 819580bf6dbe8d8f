/- The program's writer where it is nil: each of its calls does nothing, and All tells so. -/
import Derived.Test.YtdgdbfodcccmcaaRd
namespace Go.Proofs.Ytdgdbfodcccmcaa
open Go.RowKit
set_option linter.unusedVariables false
set_option linter.unusedSimpArgs false
set_option maxRecDepth 100000

theorem lay_nil (s : ByteArray) (x : Int) (w : World) : Calls Try.prog 31 #[.pointer none, .string s, .int .i64 x] w fun e w' => e = .returned (.tuple #[]) ∧ w' = w := by
  go_enter Try.func31, Try.ntmps31
  go_wp2
  go_end0
  exact ⟨rfl, rfl⟩
theorem WNum_nil (n k : Int) (w : World) : Calls Try.prog 15 #[.pointer none, .int .i64 n, .int .i64 k] w fun e w' => e = .returned (.tuple #[]) ∧ Below w.heap.size w w' := by
  obtain ⟨sv, ev, hp⟩ : ∃ sv ev, putV ⟨#[]⟩ n k = (sv, ev) := ⟨_, _, rfl⟩
  have c1 := fun w => Put_any ⟨#[]⟩ n k w (by decide)
  rw [hp] at c1
  dsimp only at c1
  have C1 : Hid _ := c1
  clear c1 hp
  go_enter Try.func15, Try.ntmps15
  go_wp2_with (first | (go_at_call 9; refine (C1.out _).mono ?_; rintro e w1 ⟨rfl, hb1⟩) | (go_at_call 31; refine (lay_nil _ _ _).mono ?_; rintro e w2 ⟨rfl, rfl⟩))
  go_end0
  exact ⟨rfl, hb1⟩
theorem WText_nil (t : ByteArray) (w : World) (ht : t.size ≤ 140737488351232) : Calls Try.prog 14 #[.pointer none, .string t] w fun e w' => e = .returned (.tuple #[]) ∧ Below w.heap.size w w' := by
  obtain ⟨sv, ev, hp⟩ : ∃ sv ev, textV ⟨#[]⟩ t = (sv, ev) := ⟨_, _, rfl⟩
  have c1 := fun w => Text_any ⟨#[]⟩ t w (by decide) (by omega)
  rw [hp] at c1
  dsimp only at c1
  have C1 : Hid _ := c1
  clear c1 hp
  go_enter Try.func14, Try.ntmps14
  go_wp2_with (first | (go_at_call 12; refine (C1.out _).mono ?_; rintro e w1 ⟨rfl, hb1⟩) | (go_at_call 31; refine (lay_nil _ _ _).mono ?_; rintro e w2 ⟨rfl, rfl⟩))
  go_end0
  exact ⟨rfl, hb1⟩
theorem All_nil (w : World) : Calls Try.prog 16 #[.pointer none] w fun e w' => e = .returned (.tuple #[.string ⟨#[]⟩, .int .i64 11]) ∧ w' = w := by
  go_enter Try.func16, Try.ntmps16
  go_wp2
  go_ret2
  exact ⟨rfl, rfl⟩
end Go.Proofs.Ytdgdbfodcccmcaa
