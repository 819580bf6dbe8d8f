import Derived.Test.YtdchjncnjgelhaaGreatProg
import Derived.WalkKit
import Derived.ProofKit
import Derived.WalkSpells
import Derived.WalkLawsBesides
import Derived.Deep.QuietTactic
import Derived.BigQuiet
set_option linter.unusedVariables false
set_option linter.unusedSimpArgs false
set_option maxRecDepth 100000
namespace Go.Proofs.YtdchjncnjgelhaaGreat.Pk
open Go.RowKit
theorem isWidth_any (n:Int) (w:World) :
  Calls Tryz.prog 92 #[.int .i64 n] w fun e w'=>e=.returned (.bool (decide (1<=n)&&decide (n<=6)))/\w'=w:=by
 by_cases h1:1<=n
 ·have h1':decide (1<=n)=true:=by simpa using h1
  go_enter Tryz.func92,Tryz.ntmps92
  go_wp2
  go_ret
  exact⟨by simp[h1],rfl⟩
 ·have h1':decide (1<=n)=false:=by simpa using h1
  go_enter Tryz.func92,Tryz.ntmps92
  go_wp2
  go_ret
  exact⟨by simp,rfl⟩
def limI (k:Nat):Int:=(256:Int) ^ k
end Go.Proofs.YtdchjncnjgelhaaGreat.Pk
