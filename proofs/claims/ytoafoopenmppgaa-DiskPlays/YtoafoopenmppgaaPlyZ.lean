/- The law DiskPlays, walked: every number of sectors, every script. -/
import Derived.Test.YtoafoopenmppgaaPlyA
import Derived.Test.YtoafoopenmppgaaPlyW
namespace Go.Proofs.Ytoafoopenmppgaa
open Go.RowKit
set_option linter.unusedVariables false
theorem plays_walk (x : Int) (a : Option Addr) (len cp : Nat) (f : Nat → Int × Int × ByteArray × Int) (w : World) (hO : IsOps w a len f) :
    Calls Try.prog 3 #[.int .i64 x, .slice a len cp] w fun e w' => e = .returned (.bool true) ∧ Below w.heap.size w w' := by
  by_cases h1 : x < 1 ∨ 8192 < x
  · exact plays_bad x a len cp w h1
  by_cases h2 : 100 < x
  · exact plays_far x a len cp w ⟨h2, by omega⟩
  obtain ⟨n, rfl⟩ : ∃ n : Nat, x = (n : Int) := ⟨x.toNat, by omega⟩
  exact plays_in n (by omega) (by omega) a len cp f w hO
end Go.Proofs.Ytoafoopenmppgaa
