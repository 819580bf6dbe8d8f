/- The small callees of the layer pack: isWidth and limit, for every argument that is named. -/
import Derived.Test.YtgodjnbbocnckaaGreatProg
import Derived.WalkKit
import Derived.ProofKit
import Derived.WalkSpells
import Derived.WalkLawsBesides
import Derived.Deep.QuietTactic
import Derived.BigQuiet
namespace Go.Proofs.YtgodjnbbocnckaaGreat.Pk
open Go.RowKit
set_option linter.unusedVariables false
set_option maxRecDepth 100000

theorem isWidth_any (n : Int) (w : World) :
    Calls Tryz.prog 87 #[.int .i64 n] w fun e w' => e = .returned (.bool (decide (1 ≤ n) && decide (n ≤ 6))) ∧ w' = w := by
  by_cases h1 : 1 ≤ n
  · have h1' : decide (1 ≤ n) = true := by simpa using h1
    go_enter Tryz.func87, Tryz.ntmps87
    go_wp2
    go_ret
    exact ⟨by simp [h1], rfl⟩
  · have h1' : decide (1 ≤ n) = false := by simpa using h1
    go_enter Tryz.func87, Tryz.ntmps87
    go_wp2
    go_ret
    exact ⟨by simp, rfl⟩

def limI (k : Nat) : Int := (256 : Int) ^ k
theorem limI_succ (k : Nat) : limI (k + 1) = 256 * limI k := by unfold limI; rw [Int.pow_succ]; omega
theorem limI_bd (k : Nat) (h : k ≤ 6) : 1 ≤ limI k ∧ limI k ≤ 281474976710656 := by
  have : k = 0 ∨ k = 1 ∨ k = 2 ∨ k = 3 ∨ k = 4 ∨ k = 5 ∨ k = 6 := by omega
  rcases this with rfl | rfl | rfl | rfl | rfl | rfl | rfl <;> decide

end Go.Proofs.YtgodjnbbocnckaaGreat.Pk
