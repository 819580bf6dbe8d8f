/-
  No cell of these rows narrows 'for every input' (looked for: loops, veiled, ifaces, maps, wideKeys, modest, calm, conditions, laid).
  DERIVED. THE GIVEN ROWS OF THIS SEAT. 5 by the template 'for every input the law returns true; each argument reads behind the call as it read before'; 0 by the template 'total and deterministic' (their statements: YtljedbakdlhlbaaTotals.lean).
  GIVEN WITH THE SEED: the statements are not yours to turn. If you find one false, say at which input.
  Laid BY PROGRAM, IN A SANDBOX (cutbox-rows.mjs): the forced cells as the released guide's own fill.sh prints them over the translation edc49e00e5fd5032… (all of the seat's roots in one cut). By AI agents, Wed Nov 11 2026. No macro, syntax, notation, axiom, sorry.
-/
import Derived.Test.YtljedbakdlhlbaaChecked
import GoSem.Claim
import GoSem.ClaimJoined
import GoSem.ClaimMapViews
import Derived.JoinedTies
import Derived.KernelRfl
namespace Go.Proofs.Ytljedbakdlhlbaa
/- THE CELL 'sum', in the pinned program and in every row, IS THE sha256 OF THE DUMP (.gsa) THAT YtljedbakdlhlbaaProg.lean LOADS. Nothing in Lean hashes anything: it is a label: what it is worth is what the hold of that sum in a sandbox is worth. -/
noncomputable def Try.pinned : Pinned := { name := "ytljedbakdlhlbaa", sum := "edc49e00e5fd50320237aa3980f233c852e99fe99407279841851078b9a77131", checked := Try.checked }
namespace Rows
def none {H : Type} : Left H := { results := [], args := [] }

/-- 'gharrylaw09.BaseSaves': WHATEVER THE INPUT: true; the input reads as it did. -/
def baseSavesSpec : ChangeSpec := { name := "baseSaves", fn := fun _ => fun
  | [d] => { results := [.lit (.bool true)], args := [d] }
  | _ => none }
def baseSavesRow : OpenClaim := { program := "ytljedbakdlhlbaa", sum := "edc49e00e5fd50320237aa3980f233c852e99fe99407279841851078b9a77131", func := "gharry/gharrylaw09.BaseSaves", spec := "baseSaves", unfollowed := true, recurses := true, apart := false }
def BaseSavesSaid : Prop := baseSavesRow.holds Try.pinned (OpenSpec.ofChange baseSavesSpec)

/-- ITS FALSE NEIGHBOUR: 'it returns false'. Refute it at one input. -/
def baseSavesWrong : ChangeSpec := { name := "baseSaves", fn := fun _ => fun
  | [d] => { results := [.lit (.bool false)], args := [d] }
  | _ => none }
def BaseSavesWrongFalsely : Prop := baseSavesRow.holds Try.pinned (OpenSpec.ofChange baseSavesWrong)

/-- 'gharrylaw09.BaseLoads': WHATEVER THE INPUT: true; the input reads as it did. -/
def baseLoadsSpec : ChangeSpec := { name := "baseLoads", fn := fun _ => fun
  | [d] => { results := [.lit (.bool true)], args := [d] }
  | _ => none }
def baseLoadsRow : OpenClaim := { program := "ytljedbakdlhlbaa", sum := "edc49e00e5fd50320237aa3980f233c852e99fe99407279841851078b9a77131", func := "gharry/gharrylaw09.BaseLoads", spec := "baseLoads", recurses := true, apart := false }
def BaseLoadsSaid : Prop := baseLoadsRow.holds Try.pinned (OpenSpec.ofChange baseLoadsSpec)

/-- ITS FALSE NEIGHBOUR: 'it returns false'. Refute it at one input. -/
def baseLoadsWrong : ChangeSpec := { name := "baseLoads", fn := fun _ => fun
  | [d] => { results := [.lit (.bool false)], args := [d] }
  | _ => none }
def BaseLoadsWrongFalsely : Prop := baseLoadsRow.holds Try.pinned (OpenSpec.ofChange baseLoadsWrong)

/-- 'gharrylaw09.BaseEither': WHATEVER THE INPUT: true; the input reads as it did. -/
def baseEitherSpec : ChangeSpec := { name := "baseEither", fn := fun _ => fun
  | [d1, d2, d3, d4] => { results := [.lit (.bool true)], args := [d1, d2, d3, d4] }
  | _ => none }
def baseEitherRow : OpenClaim := { program := "ytljedbakdlhlbaa", sum := "edc49e00e5fd50320237aa3980f233c852e99fe99407279841851078b9a77131", func := "gharry/gharrylaw09.BaseEither", spec := "baseEither", unfollowed := true, recurses := true, apart := false }
def BaseEitherSaid : Prop := baseEitherRow.holds Try.pinned (OpenSpec.ofChange baseEitherSpec)

/-- ITS FALSE NEIGHBOUR: 'it returns false'. Refute it at one input. -/
def baseEitherWrong : ChangeSpec := { name := "baseEither", fn := fun _ => fun
  | [d1, d2, d3, d4] => { results := [.lit (.bool false)], args := [d1, d2, d3, d4] }
  | _ => none }
def BaseEitherWrongFalsely : Prop := baseEitherRow.holds Try.pinned (OpenSpec.ofChange baseEitherWrong)

/-- 'gharrylaw09.BaseStarts': WHATEVER THE INPUT: true; the input reads as it did. -/
def baseStartsSpec : ChangeSpec := { name := "baseStarts", fn := fun _ => fun
  | [d1, d2, d3] => { results := [.lit (.bool true)], args := [d1, d2, d3] }
  | _ => none }
def baseStartsRow : OpenClaim := { program := "ytljedbakdlhlbaa", sum := "edc49e00e5fd50320237aa3980f233c852e99fe99407279841851078b9a77131", func := "gharry/gharrylaw09.BaseStarts", spec := "baseStarts", unfollowed := true, recurses := true, apart := false }
def BaseStartsSaid : Prop := baseStartsRow.holds Try.pinned (OpenSpec.ofChange baseStartsSpec)

/-- ITS FALSE NEIGHBOUR: 'it returns false'. Refute it at one input. -/
def baseStartsWrong : ChangeSpec := { name := "baseStarts", fn := fun _ => fun
  | [d1, d2, d3] => { results := [.lit (.bool false)], args := [d1, d2, d3] }
  | _ => none }
def BaseStartsWrongFalsely : Prop := baseStartsRow.holds Try.pinned (OpenSpec.ofChange baseStartsWrong)

/-- 'gharrylaw09.BasePlans': WHATEVER THE INPUT: true; the input reads as it did. -/
def basePlansSpec : ChangeSpec := { name := "basePlans", fn := fun _ => fun
  | [d] => { results := [.lit (.bool true)], args := [d] }
  | _ => none }
def basePlansRow : OpenClaim := { program := "ytljedbakdlhlbaa", sum := "edc49e00e5fd50320237aa3980f233c852e99fe99407279841851078b9a77131", func := "gharry/gharrylaw09.BasePlans", spec := "basePlans", apart := false }
def BasePlansSaid : Prop := basePlansRow.holds Try.pinned (OpenSpec.ofChange basePlansSpec)

/-- ITS FALSE NEIGHBOUR: 'it returns false'. Refute it at one input. -/
def basePlansWrong : ChangeSpec := { name := "basePlans", fn := fun _ => fun
  | [d] => { results := [.lit (.bool false)], args := [d] }
  | _ => none }
def BasePlansWrongFalsely : Prop := basePlansRow.holds Try.pinned (OpenSpec.ofChange basePlansWrong)

/- THE SECOND FORM. 'bulk': how many values and letters a reading holds, each counted each time it is reached (what is shared counts as often as it is met; a slice's spare places count too). A statement '..UptoSaid' is the law's where the arguments, and the package variables that the reading takes, are together of bulk at most 1048576: NARROWER than '..Said'. Prove '..Said' where nothing that the law and all that it calls make is longer than what came in: it says more and counts as full. Else prove '..UptoSaid'. A law counts once. -/
mutual
def uptoBulk {H : Type} : DataW H → Nat
  | .lit (.string bytes) => bytes.length + 1
  | .lit _ => 1
  | .nil => 1
  | .ptr d => uptoBulk d + 1
  | .slice elems spare => uptoBulkAll elems + uptoBulkAll spare + 1
  | .agg parts => uptoBulkAll parts + 1
  | .iface _ d => uptoBulk d + 1
  | .map entries => uptoBulkEntries entries + 1
  | .held _ => 1
def uptoBulkAll {H : Type} : List (DataW H) → Nat
  | [] => 0
  | d :: r => uptoBulk d + uptoBulkAll r
def uptoBulkEntries {H : Type} : List (Lit × DataW H) → Nat
  | [] => 0
  | x :: r => uptoBulkEntry x + uptoBulkEntries r
def uptoBulkEntry {H : Type} : Lit × DataW H → Nat
  | (.string bytes, d) => bytes.length + uptoBulk d + 1
  | (_, d) => uptoBulk d + 1
 end
def uptoSmall : (H : Type) → List (DataW H) → Bool := fun _ ds => decide (uptoBulkAll ds ≤ 1048576)
def OpenSpec.upto (s : _root_.Go.ChangeSpec) : _root_.Go.OpenSpec := { _root_.Go.OpenSpec.ofChange s with cond := some uptoSmall }

/-- 'gharrylaw09.BaseSaves', WHERE WHAT IT READS IS OF BULK AT MOST 1048576: true; the input reads as it did. -/
def baseSavesUptoRow : OpenClaim := { program := "ytljedbakdlhlbaa", sum := "edc49e00e5fd50320237aa3980f233c852e99fe99407279841851078b9a77131", func := "gharry/gharrylaw09.BaseSaves", spec := "baseSaves", unfollowed := true, recurses := true, apart := false, narrowed := true }
def BaseSavesUptoSaid : Prop := baseSavesUptoRow.holds Try.pinned (OpenSpec.upto baseSavesSpec)

/-- 'gharrylaw09.BaseLoads', WHERE WHAT IT READS IS OF BULK AT MOST 1048576: true; the input reads as it did. -/
def baseLoadsUptoRow : OpenClaim := { program := "ytljedbakdlhlbaa", sum := "edc49e00e5fd50320237aa3980f233c852e99fe99407279841851078b9a77131", func := "gharry/gharrylaw09.BaseLoads", spec := "baseLoads", recurses := true, apart := false, narrowed := true }
def BaseLoadsUptoSaid : Prop := baseLoadsUptoRow.holds Try.pinned (OpenSpec.upto baseLoadsSpec)

/-- 'gharrylaw09.BaseEither', WHERE WHAT IT READS IS OF BULK AT MOST 1048576: true; the input reads as it did. -/
def baseEitherUptoRow : OpenClaim := { program := "ytljedbakdlhlbaa", sum := "edc49e00e5fd50320237aa3980f233c852e99fe99407279841851078b9a77131", func := "gharry/gharrylaw09.BaseEither", spec := "baseEither", unfollowed := true, recurses := true, apart := false, narrowed := true }
def BaseEitherUptoSaid : Prop := baseEitherUptoRow.holds Try.pinned (OpenSpec.upto baseEitherSpec)

/-- 'gharrylaw09.BaseStarts', WHERE WHAT IT READS IS OF BULK AT MOST 1048576: true; the input reads as it did. -/
def baseStartsUptoRow : OpenClaim := { program := "ytljedbakdlhlbaa", sum := "edc49e00e5fd50320237aa3980f233c852e99fe99407279841851078b9a77131", func := "gharry/gharrylaw09.BaseStarts", spec := "baseStarts", unfollowed := true, recurses := true, apart := false, narrowed := true }
def BaseStartsUptoSaid : Prop := baseStartsUptoRow.holds Try.pinned (OpenSpec.upto baseStartsSpec)

/-- 'gharrylaw09.BasePlans', WHERE WHAT IT READS IS OF BULK AT MOST 1048576: true; the input reads as it did. -/
def basePlansUptoRow : OpenClaim := { program := "ytljedbakdlhlbaa", sum := "edc49e00e5fd50320237aa3980f233c852e99fe99407279841851078b9a77131", func := "gharry/gharrylaw09.BasePlans", spec := "basePlans", apart := false, narrowed := true }
def BasePlansUptoSaid : Prop := basePlansUptoRow.holds Try.pinned (OpenSpec.upto basePlansSpec)

end Rows
end Go.Proofs.Ytljedbakdlhlbaa
