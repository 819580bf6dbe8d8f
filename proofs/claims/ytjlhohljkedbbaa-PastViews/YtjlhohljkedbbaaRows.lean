/-
  No cell of these rows narrows 'for every input' (looked for: loops, veiled, ifaces, maps, wideKeys, modest, calm, conditions, laid).
  DERIVED. THE GIVEN ROWS OF THIS SEAT. 2 by the template 'for every input the law returns true; each argument reads behind the call as it read before'; 0 by the template 'total and deterministic' (their statements: YtjlhohljkedbbaaTotals.lean).
  GIVEN WITH THE SEED: the statements are not yours to turn. If you find one false, say at which input.
  Laid BY PROGRAM, IN A SANDBOX (cutbox-rows.mjs): the forced cells as the released guide's own fill.sh prints them over the translation 23ed74181384e986… (all of the seat's roots in one cut). By AI agents, Wed Nov 11 2026. No macro, syntax, notation, axiom, sorry.
-/
import Derived.Test.YtjlhohljkedbbaaChecked
import GoSem.Claim
import GoSem.ClaimJoined
import GoSem.ClaimMapViews
import Derived.JoinedTies
import Derived.KernelRfl
namespace Go.Proofs.Ytjlhohljkedbbaa
/- THE CELL 'sum', in the pinned program and in every row, IS THE sha256 OF THE DUMP (.gsa) THAT YtjlhohljkedbbaaProg.lean LOADS. Nothing in Lean hashes anything: it is a label: what it is worth is what the hold of that sum in a sandbox is worth. -/
noncomputable def Try.pinned : Pinned := { name := "ytjlhohljkedbbaa", sum := "23ed74181384e9869ef1952b9cd386319acc629f429fbf1a921e722f57fe94df", checked := Try.checked }
namespace Rows
def none {H : Type} : Left H := { results := [], args := [] }

/-- 'gharrylaw14.PastViews': WHATEVER THE INPUT: true; the input reads as it did. -/
def pastViewsSpec : ChangeSpec := { name := "pastViews", fn := fun _ => fun
  | [d1, d2, d3, d4, d5] => { results := [.lit (.bool true)], args := [d1, d2, d3, d4, d5] }
  | _ => none }
def pastViewsRow : OpenClaim := { program := "ytjlhohljkedbbaa", sum := "23ed74181384e9869ef1952b9cd386319acc629f429fbf1a921e722f57fe94df", func := "gharry/gharrylaw14.PastViews", spec := "pastViews", inPlace := ["internal/bytealg.abigen_runtime_cmpstring"], unfollowed := true, recurses := true, apart := false }
def PastViewsSaid : Prop := pastViewsRow.holds Try.pinned (OpenSpec.ofChange pastViewsSpec)

/-- ITS FALSE NEIGHBOUR: 'it returns false'. Refute it at one input. -/
def pastViewsWrong : ChangeSpec := { name := "pastViews", fn := fun _ => fun
  | [d1, d2, d3, d4, d5] => { results := [.lit (.bool false)], args := [d1, d2, d3, d4, d5] }
  | _ => none }
def PastViewsWrongFalsely : Prop := pastViewsRow.holds Try.pinned (OpenSpec.ofChange pastViewsWrong)

/-- 'gharrylaw15.RedoParts': WHATEVER THE INPUT: true; the input reads as it did. -/
def redoPartsSpec : ChangeSpec := { name := "redoParts", fn := fun _ => fun
  | [d1, d2, d3] => { results := [.lit (.bool true)], args := [d1, d2, d3] }
  | _ => none }
def redoPartsRow : OpenClaim := { program := "ytjlhohljkedbbaa", sum := "23ed74181384e9869ef1952b9cd386319acc629f429fbf1a921e722f57fe94df", func := "gharry/gharrylaw15.RedoParts", spec := "redoParts", apart := false }
def RedoPartsSaid : Prop := redoPartsRow.holds Try.pinned (OpenSpec.ofChange redoPartsSpec)

/-- ITS FALSE NEIGHBOUR: 'it returns false'. Refute it at one input. -/
def redoPartsWrong : ChangeSpec := { name := "redoParts", fn := fun _ => fun
  | [d1, d2, d3] => { results := [.lit (.bool false)], args := [d1, d2, d3] }
  | _ => none }
def RedoPartsWrongFalsely : Prop := redoPartsRow.holds Try.pinned (OpenSpec.ofChange redoPartsWrong)

/- THE SECOND FORM. 'bulk': how many values and letters a reading holds, each counted each time it is reached (what is shared counts as often as it is met; a slice's spare places count too). A statement '..UptoSaid' is the law's where the arguments, and the package variables that the reading takes, are together of bulk at most 1048576: NARROWER than '..Said'. Prove '..Said' where nothing that the law and all that it calls make is longer than what came in: it says more and counts as full. Else prove '..UptoSaid'. A law counts once. -/
mutual
def uptoBulk {H : Type} : DataW H → Nat
  | .lit (.string bytes) => bytes.length + 1
  | .lit _ => 1
  | .nil => 1
  | .ptr d => uptoBulk d + 1
  | .slice elems spare => uptoBulkAll elems + uptoBulkAll spare + 1
  | .agg parts => uptoBulkAll parts + 1
  | .iface _ d => uptoBulk d + 1
  | .map entries => uptoBulkEntries entries + 1
  | .held _ => 1
def uptoBulkAll {H : Type} : List (DataW H) → Nat
  | [] => 0
  | d :: r => uptoBulk d + uptoBulkAll r
def uptoBulkEntries {H : Type} : List (Lit × DataW H) → Nat
  | [] => 0
  | x :: r => uptoBulkEntry x + uptoBulkEntries r
def uptoBulkEntry {H : Type} : Lit × DataW H → Nat
  | (.string bytes, d) => bytes.length + uptoBulk d + 1
  | (_, d) => uptoBulk d + 1
 end
def uptoSmall : (H : Type) → List (DataW H) → Bool := fun _ ds => decide (uptoBulkAll ds ≤ 1048576)
def OpenSpec.upto (s : _root_.Go.ChangeSpec) : _root_.Go.OpenSpec := { _root_.Go.OpenSpec.ofChange s with cond := some uptoSmall }

/-- 'gharrylaw14.PastViews', WHERE WHAT IT READS IS OF BULK AT MOST 1048576: true; the input reads as it did. -/
def pastViewsUptoRow : OpenClaim := { program := "ytjlhohljkedbbaa", sum := "23ed74181384e9869ef1952b9cd386319acc629f429fbf1a921e722f57fe94df", func := "gharry/gharrylaw14.PastViews", spec := "pastViews", inPlace := ["internal/bytealg.abigen_runtime_cmpstring"], unfollowed := true, recurses := true, apart := false, narrowed := true }
def PastViewsUptoSaid : Prop := pastViewsUptoRow.holds Try.pinned (OpenSpec.upto pastViewsSpec)

/-- 'gharrylaw15.RedoParts', WHERE WHAT IT READS IS OF BULK AT MOST 1048576: true; the input reads as it did. -/
def redoPartsUptoRow : OpenClaim := { program := "ytjlhohljkedbbaa", sum := "23ed74181384e9869ef1952b9cd386319acc629f429fbf1a921e722f57fe94df", func := "gharry/gharrylaw15.RedoParts", spec := "redoParts", apart := false, narrowed := true }
def RedoPartsUptoSaid : Prop := redoPartsUptoRow.holds Try.pinned (OpenSpec.upto redoPartsSpec)

end Rows
end Go.Proofs.Ytjlhohljkedbbaa
