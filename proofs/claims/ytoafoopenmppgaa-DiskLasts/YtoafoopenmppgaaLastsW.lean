/- The law DiskLasts, walked. -/
import Derived.Test.YtoafoopenmppgaaLastsAA
import Derived.Test.YtoafoopenmppgaaLastsAB
import Derived.Test.YtoafoopenmppgaaLastsBA
import Derived.Test.YtoafoopenmppgaaLastsBB
namespace Go.Proofs.Ytoafoopenmppgaa
open Go.RowKit
set_option linter.unusedVariables false
theorem lasts_walk (al am : Option Addr) (ll lm cl cm : Nat) (fl fm : Nat → ByteArray) (x : Int) (x0 : 0 ≤ x) (x1 : x ≤ 18446744073709551615) (w : World) (hl : IsStrs w al ll fl) (hm : IsStrs w am lm fm) :
    Calls Try.prog 4 #[.slice al ll cl, .slice am lm cm, .int .u64 x] w fun e w' => e = .returned (.bool true) ∧ Below w.heap.size w w' := by
  rcases Nat.lt_or_ge 40 ll with h1 | h1
  · rcases Nat.lt_or_ge 40 lm with h2 | h2
    · exact lasts_bb al am ll lm cl cm fl fm x x0 x1 w hl hm h1 h2
    · exact lasts_ba al am ll lm cl cm fl fm x x0 x1 w hl hm h1 h2
  · rcases Nat.lt_or_ge 40 lm with h2 | h2
    · exact lasts_ab al am ll lm cl cm fl fm x x0 x1 w hl hm h1 h2
    · exact lasts_aa al am ll lm cl cm fl fm x x0 x1 w hl hm h1 h2
end Go.Proofs.Ytoafoopenmppgaa
