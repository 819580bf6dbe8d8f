/-
  No cell of these rows narrows 'for every input' (looked for: loops, veiled, ifaces, maps, wideKeys, modest, calm, conditions, laid).
  DERIVED. THE GIVEN ROWS OF THIS SEAT. 4 by the template 'for every input the law returns true; each argument reads behind the call as it read before'; 0 by the template 'total and deterministic' (their statements: YtdchjncnjgelhaaGreatTotals.lean).
  GIVEN WITH THE SEED: the statements are not yours to turn. If you find one false, say at which input.
  Laid BY PROGRAM, IN A SANDBOX (cutbox-rows.mjs): the forced cells as the released guide's own fill.sh prints them over the translation 9e28ccf4c1fe0c6b… (all of the seat's roots in one cut). By AI agents, Wed Nov 11 2026. No macro, syntax, notation, axiom, sorry.
-/
import Derived.Test.YtdchjncnjgelhaaGreatChecked
import GoSem.Claim
import GoSem.ClaimJoined
import GoSem.ClaimMapViews
import Derived.JoinedTies
import Derived.KernelRfl
namespace Go.Proofs.YtdchjncnjgelhaaGreat
/- THE CELL 'sum', in the pinned program and in every row, IS THE sha256 OF THE DUMP (.gsa) THAT YtdchjncnjgelhaaGreatProg.lean LOADS. Nothing in Lean hashes anything: it is a label: what it is worth is what the hold of that sum in a sandbox is worth. -/
noncomputable def Tryz.pinned : Pinned := { name := "ytdchjncnjgelhaagreat", sum := "9e28ccf4c1fe0c6b22bc572572579205de0798c9974b72bf6ea5ecf6eba8d41f", checked := Tryz.checked }
namespace Rows
def none {H : Type} : Left H := { results := [], args := [] }

/-- 'gharrylaw14.PastLoads': WHATEVER THE INPUT: true; the input reads as it did. -/
def pastLoadsSpec : ChangeSpec := { name := "pastLoads", fn := fun _ => fun
  | [d] => { results := [.lit (.bool true)], args := [d] }
  | _ => none }
def pastLoadsRow : OpenClaim := { program := "ytdchjncnjgelhaagreat", sum := "9e28ccf4c1fe0c6b22bc572572579205de0798c9974b72bf6ea5ecf6eba8d41f", func := "gharry/gharrylaw14.PastLoads", spec := "pastLoads", inPlace := ["internal/abi.NoEscape"], unfollowed := true, recurses := true, apart := false }
def PastLoadsSaid : Prop := pastLoadsRow.holds Tryz.pinned (OpenSpec.ofChange pastLoadsSpec)

/-- ITS FALSE NEIGHBOUR: 'it returns false'. Refute it at one input. -/
def pastLoadsWrong : ChangeSpec := { name := "pastLoads", fn := fun _ => fun
  | [d] => { results := [.lit (.bool false)], args := [d] }
  | _ => none }
def PastLoadsWrongFalsely : Prop := pastLoadsRow.holds Tryz.pinned (OpenSpec.ofChange pastLoadsWrong)

/-- 'gharrylaw15.RedoTables': WHATEVER THE INPUT: true; the input reads as it did. -/
def redoTablesSpec : ChangeSpec := { name := "redoTables", fn := fun _ => fun
  | [d1, d2] => { results := [.lit (.bool true)], args := [d1, d2] }
  | _ => none }
def redoTablesRow : OpenClaim := { program := "ytdchjncnjgelhaagreat", sum := "9e28ccf4c1fe0c6b22bc572572579205de0798c9974b72bf6ea5ecf6eba8d41f", func := "gharry/gharrylaw15.RedoTables", spec := "redoTables", inPlace := ["internal/abi.NoEscape"], unfollowed := true, recurses := true, apart := false }
def RedoTablesSaid : Prop := redoTablesRow.holds Tryz.pinned (OpenSpec.ofChange redoTablesSpec)

/-- ITS FALSE NEIGHBOUR: 'it returns false'. Refute it at one input. -/
def redoTablesWrong : ChangeSpec := { name := "redoTables", fn := fun _ => fun
  | [d1, d2] => { results := [.lit (.bool false)], args := [d1, d2] }
  | _ => none }
def RedoTablesWrongFalsely : Prop := redoTablesRow.holds Tryz.pinned (OpenSpec.ofChange redoTablesWrong)

/-- 'gharrylaw16.FoldSteps': WHATEVER THE INPUT: true; the input reads as it did. -/
def foldStepsSpec : ChangeSpec := { name := "foldSteps", fn := fun _ => fun
  | [d] => { results := [.lit (.bool true)], args := [d] }
  | _ => none }
def foldStepsRow : OpenClaim := { program := "ytdchjncnjgelhaagreat", sum := "9e28ccf4c1fe0c6b22bc572572579205de0798c9974b72bf6ea5ecf6eba8d41f", func := "gharry/gharrylaw16.FoldSteps", spec := "foldSteps", inPlace := ["internal/abi.NoEscape", "internal/bytealg.abigen_runtime_cmpstring", "slices.overlaps[gharry/api.Cell]"], unfollowed := true, recurses := true, apart := false }
def FoldStepsSaid : Prop := foldStepsRow.holds Tryz.pinned (OpenSpec.ofChange foldStepsSpec)

/-- ITS FALSE NEIGHBOUR: 'it returns false'. Refute it at one input. -/
def foldStepsWrong : ChangeSpec := { name := "foldSteps", fn := fun _ => fun
  | [d] => { results := [.lit (.bool false)], args := [d] }
  | _ => none }
def FoldStepsWrongFalsely : Prop := foldStepsRow.holds Tryz.pinned (OpenSpec.ofChange foldStepsWrong)

/-- 'gharrylaw16.FoldKeys': WHATEVER THE INPUT: true; the input reads as it did. -/
def foldKeysSpec : ChangeSpec := { name := "foldKeys", fn := fun _ => fun
  | [d1, d2, d3] => { results := [.lit (.bool true)], args := [d1, d2, d3] }
  | _ => none }
def foldKeysRow : OpenClaim := { program := "ytdchjncnjgelhaagreat", sum := "9e28ccf4c1fe0c6b22bc572572579205de0798c9974b72bf6ea5ecf6eba8d41f", func := "gharry/gharrylaw16.FoldKeys", spec := "foldKeys", inPlace := ["internal/abi.NoEscape", "internal/bytealg.abigen_runtime_cmpstring", "slices.overlaps[gharry/api.Cell]"], unfollowed := true, recurses := true, apart := false }
def FoldKeysSaid : Prop := foldKeysRow.holds Tryz.pinned (OpenSpec.ofChange foldKeysSpec)

/-- ITS FALSE NEIGHBOUR: 'it returns false'. Refute it at one input. -/
def foldKeysWrong : ChangeSpec := { name := "foldKeys", fn := fun _ => fun
  | [d1, d2, d3] => { results := [.lit (.bool false)], args := [d1, d2, d3] }
  | _ => none }
def FoldKeysWrongFalsely : Prop := foldKeysRow.holds Tryz.pinned (OpenSpec.ofChange foldKeysWrong)

/- THE SECOND FORM. 'bulk': how many values and letters a reading holds, each counted each time it is reached (what is shared counts as often as it is met; a slice's spare places count too). A statement '..UptoSaid' is the law's where the arguments, and the package variables that the reading takes, are together of bulk at most 1048576: NARROWER than '..Said'. Prove '..Said' where nothing that the law and all that it calls make is longer than what came in: it says more and counts as full. Else prove '..UptoSaid'. A law counts once. -/
mutual
def uptoBulk {H : Type} : DataW H → Nat
  | .lit (.string bytes) => bytes.length + 1
  | .lit _ => 1
  | .nil => 1
  | .ptr d => uptoBulk d + 1
  | .slice elems spare => uptoBulkAll elems + uptoBulkAll spare + 1
  | .agg parts => uptoBulkAll parts + 1
  | .iface _ d => uptoBulk d + 1
  | .map entries => uptoBulkEntries entries + 1
  | .held _ => 1
def uptoBulkAll {H : Type} : List (DataW H) → Nat
  | [] => 0
  | d :: r => uptoBulk d + uptoBulkAll r
def uptoBulkEntries {H : Type} : List (Lit × DataW H) → Nat
  | [] => 0
  | x :: r => uptoBulkEntry x + uptoBulkEntries r
def uptoBulkEntry {H : Type} : Lit × DataW H → Nat
  | (.string bytes, d) => bytes.length + uptoBulk d + 1
  | (_, d) => uptoBulk d + 1
 end
def uptoSmall : (H : Type) → List (DataW H) → Bool := fun _ ds => decide (uptoBulkAll ds ≤ 1048576)
def OpenSpec.upto (s : _root_.Go.ChangeSpec) : _root_.Go.OpenSpec := { _root_.Go.OpenSpec.ofChange s with cond := some uptoSmall }

/-- 'gharrylaw14.PastLoads', WHERE WHAT IT READS IS OF BULK AT MOST 1048576: true; the input reads as it did. -/
def pastLoadsUptoRow : OpenClaim := { program := "ytdchjncnjgelhaagreat", sum := "9e28ccf4c1fe0c6b22bc572572579205de0798c9974b72bf6ea5ecf6eba8d41f", func := "gharry/gharrylaw14.PastLoads", spec := "pastLoads", inPlace := ["internal/abi.NoEscape"], unfollowed := true, recurses := true, apart := false, narrowed := true }
def PastLoadsUptoSaid : Prop := pastLoadsUptoRow.holds Tryz.pinned (OpenSpec.upto pastLoadsSpec)

/-- 'gharrylaw15.RedoTables', WHERE WHAT IT READS IS OF BULK AT MOST 1048576: true; the input reads as it did. -/
def redoTablesUptoRow : OpenClaim := { program := "ytdchjncnjgelhaagreat", sum := "9e28ccf4c1fe0c6b22bc572572579205de0798c9974b72bf6ea5ecf6eba8d41f", func := "gharry/gharrylaw15.RedoTables", spec := "redoTables", inPlace := ["internal/abi.NoEscape"], unfollowed := true, recurses := true, apart := false, narrowed := true }
def RedoTablesUptoSaid : Prop := redoTablesUptoRow.holds Tryz.pinned (OpenSpec.upto redoTablesSpec)

/-- 'gharrylaw16.FoldSteps', WHERE WHAT IT READS IS OF BULK AT MOST 1048576: true; the input reads as it did. -/
def foldStepsUptoRow : OpenClaim := { program := "ytdchjncnjgelhaagreat", sum := "9e28ccf4c1fe0c6b22bc572572579205de0798c9974b72bf6ea5ecf6eba8d41f", func := "gharry/gharrylaw16.FoldSteps", spec := "foldSteps", inPlace := ["internal/abi.NoEscape", "internal/bytealg.abigen_runtime_cmpstring", "slices.overlaps[gharry/api.Cell]"], unfollowed := true, recurses := true, apart := false, narrowed := true }
def FoldStepsUptoSaid : Prop := foldStepsUptoRow.holds Tryz.pinned (OpenSpec.upto foldStepsSpec)

/-- 'gharrylaw16.FoldKeys', WHERE WHAT IT READS IS OF BULK AT MOST 1048576: true; the input reads as it did. -/
def foldKeysUptoRow : OpenClaim := { program := "ytdchjncnjgelhaagreat", sum := "9e28ccf4c1fe0c6b22bc572572579205de0798c9974b72bf6ea5ecf6eba8d41f", func := "gharry/gharrylaw16.FoldKeys", spec := "foldKeys", inPlace := ["internal/abi.NoEscape", "internal/bytealg.abigen_runtime_cmpstring", "slices.overlaps[gharry/api.Cell]"], unfollowed := true, recurses := true, apart := false, narrowed := true }
def FoldKeysUptoSaid : Prop := foldKeysUptoRow.holds Tryz.pinned (OpenSpec.upto foldKeysSpec)

end Rows
end Go.Proofs.YtdchjncnjgelhaaGreat
