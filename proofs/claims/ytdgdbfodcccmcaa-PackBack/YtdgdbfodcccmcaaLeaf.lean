/- The small callees of the layer pack: isWidth and limit, for every argument that is named. -/
import Derived.Test.YtdgdbfodcccmcaaProg
import Derived.WalkKit
import Derived.ProofKit
import Derived.WalkSpells
import Derived.WalkLawsBesides
import Derived.Deep.QuietTactic
import Derived.BigQuiet
namespace Go.Proofs.Ytdgdbfodcccmcaa
open Go.RowKit
set_option linter.unusedVariables false

theorem isWidth_any (n : Int) (w : World) :
    Calls Try.prog 27 #[.int .i64 n] w fun e w' => e = .returned (.bool (decide (1 ≤ n) && decide (n ≤ 6))) ∧ w' = w := by
  by_cases h1 : 1 ≤ n
  · have h1' : decide (1 ≤ n) = true := by simpa using h1
    go_enter Try.func27, Try.ntmps27
    go_wp2
    go_ret
    exact ⟨by simp [h1], rfl⟩
  · have h1' : decide (1 ≤ n) = false := by simpa using h1
    go_enter Try.func27, Try.ntmps27
    go_wp2
    go_ret
    exact ⟨by simp, rfl⟩

def limI (k : Nat) : Int := (256 : Int) ^ k
theorem limI_succ (k : Nat) : limI (k + 1) = 256 * limI k := by unfold limI; rw [Int.pow_succ]; omega
theorem limI_bd (k : Nat) (h : k ≤ 6) : 1 ≤ limI k ∧ limI k ≤ 281474976710656 := by
  have : k = 0 ∨ k = 1 ∨ k = 2 ∨ k = 3 ∨ k = 4 ∨ k = 5 ∨ k = 6 := by omega
  rcases this with rfl | rfl | rfl | rfl | rfl | rfl | rfl <;> decide

set_option maxHeartbeats 400000 in
theorem limit_any (k : Nat) (w : World) (h6 : k ≤ 6) :
    Calls Try.prog 29 #[.int .i64 k] w fun e w' => e = .returned (.int .i64 (limI k)) ∧ w' = w := by
  go_enter Try.func29, Try.ntmps29
  go_wp2
  go_loop [3, 4] (fun o i => ∃ j : Nat, j ≤ k ∧ i = .int .i64 j ∧ o = .int .i64 (limI j)) (fun _ i => k - (intOf i).toNat)
  case atStart => exact ⟨0, Nat.zero_le _, rfl, rfl⟩
  case round =>
    obtain ⟨j, hj, rfl, rfl⟩ := hrel
    have hb := limI_bd j (by omega)
    by_cases hlt : j < k
    · have hb2 := limI_bd (j + 1) (by omega)
      have HS : Hid (limI (j + 1) = 256 * limI j) := limI_succ j
      have h3 : 256 * limI j ≤ 281474976710656 := by rw [← HS.out]; exact hb2.2
      have h4 : 1 ≤ 256 * limI j := by rw [← HS.out]; exact hb2.1
      go_wp2
      go_round
      case rel => exact ⟨j + 1, by omega, by go_num, by rw [HS.out]⟩
      case measure => simp [intOf]; omega
    · go_wp2
      go_ret
      have : j = k := by omega
      subst this
      exact ⟨rfl, rfl⟩
end Go.Proofs.Ytdgdbfodcccmcaa
