/-
  No cell of these rows narrows 'for every input' (looked for: loops, veiled, ifaces, maps, wideKeys, modest, calm, conditions, laid).
  DERIVED. THE GIVEN ROWS OF THIS SEAT. 6 by the template 'for every input the law returns true; each argument reads behind the call as it read before'; 0 by the template 'total and deterministic' (their statements: YtmoognjegjeegaaTotals.lean).
  GIVEN WITH THE SEED: the statements are not yours to turn. If you find one false, say at which input.
  Laid BY PROGRAM, IN A SANDBOX (cutbox-rows.mjs): the forced cells as the released guide's own fill.sh prints them over the translation da678fa831b2a192… (all of the seat's roots in one cut). By AI agents, Wed Nov 11 2026. No macro, syntax, notation, axiom, sorry.
-/
import Derived.Test.YtmoognjegjeegaaChecked
import GoSem.Claim
import GoSem.ClaimJoined
import GoSem.ClaimMapViews
import Derived.JoinedTies
import Derived.KernelRfl
namespace Go.Proofs.Ytmoognjegjeegaa
/- THE CELL 'sum', in the pinned program and in every row, IS THE sha256 OF THE DUMP (.gsa) THAT YtmoognjegjeegaaProg.lean LOADS. Nothing in Lean hashes anything: it is a label: what it is worth is what the hold of that sum in a sandbox is worth. -/
noncomputable def Try.pinned : Pinned := { name := "ytmoognjegjeegaa", sum := "da678fa831b2a192503dbb1a43142e9da1ce6181c21fd6b4445945ad232dd7b1", checked := Try.checked }
namespace Rows
def none {H : Type} : Left H := { results := [], args := [] }

/-- 'gharrylaw05.PageRights': WHATEVER THE INPUT: true; the input reads as it did. -/
def pageRightsSpec : ChangeSpec := { name := "pageRights", fn := fun _ => fun
  | [d1, d2, d3] => { results := [.lit (.bool true)], args := [d1, d2, d3] }
  | _ => none }
def pageRightsRow : OpenClaim := { program := "ytmoognjegjeegaa", sum := "da678fa831b2a192503dbb1a43142e9da1ce6181c21fd6b4445945ad232dd7b1", func := "gharry/gharrylaw05.PageRights", spec := "pageRights", unfollowed := true, recurses := true, apart := false }
def PageRightsSaid : Prop := pageRightsRow.holds Try.pinned (OpenSpec.ofChange pageRightsSpec)

/-- ITS FALSE NEIGHBOUR: 'it returns false'. Refute it at one input. -/
def pageRightsWrong : ChangeSpec := { name := "pageRights", fn := fun _ => fun
  | [d1, d2, d3] => { results := [.lit (.bool false)], args := [d1, d2, d3] }
  | _ => none }
def PageRightsWrongFalsely : Prop := pageRightsRow.holds Try.pinned (OpenSpec.ofChange pageRightsWrong)

/-- 'gharrylaw05.PageMakes': WHATEVER THE INPUT: true; the input reads as it did. -/
def pageMakesSpec : ChangeSpec := { name := "pageMakes", fn := fun _ => fun
  | [d1, d2, d3] => { results := [.lit (.bool true)], args := [d1, d2, d3] }
  | _ => none }
def pageMakesRow : OpenClaim := { program := "ytmoognjegjeegaa", sum := "da678fa831b2a192503dbb1a43142e9da1ce6181c21fd6b4445945ad232dd7b1", func := "gharry/gharrylaw05.PageMakes", spec := "pageMakes", apart := false }
def PageMakesSaid : Prop := pageMakesRow.holds Try.pinned (OpenSpec.ofChange pageMakesSpec)

/-- ITS FALSE NEIGHBOUR: 'it returns false'. Refute it at one input. -/
def pageMakesWrong : ChangeSpec := { name := "pageMakes", fn := fun _ => fun
  | [d1, d2, d3] => { results := [.lit (.bool false)], args := [d1, d2, d3] }
  | _ => none }
def PageMakesWrongFalsely : Prop := pageMakesRow.holds Try.pinned (OpenSpec.ofChange pageMakesWrong)

/-- 'gharrylaw05.PageNeeds': WHATEVER THE INPUT: true; the input reads as it did. -/
def pageNeedsSpec : ChangeSpec := { name := "pageNeeds", fn := fun _ => fun
  | [d] => { results := [.lit (.bool true)], args := [d] }
  | _ => none }
def pageNeedsRow : OpenClaim := { program := "ytmoognjegjeegaa", sum := "da678fa831b2a192503dbb1a43142e9da1ce6181c21fd6b4445945ad232dd7b1", func := "gharry/gharrylaw05.PageNeeds", spec := "pageNeeds", apart := false }
def PageNeedsSaid : Prop := pageNeedsRow.holds Try.pinned (OpenSpec.ofChange pageNeedsSpec)

/-- ITS FALSE NEIGHBOUR: 'it returns false'. Refute it at one input. -/
def pageNeedsWrong : ChangeSpec := { name := "pageNeeds", fn := fun _ => fun
  | [d] => { results := [.lit (.bool false)], args := [d] }
  | _ => none }
def PageNeedsWrongFalsely : Prop := pageNeedsRow.holds Try.pinned (OpenSpec.ofChange pageNeedsWrong)

/-- 'gharrylaw05.PageDeletes': WHATEVER THE INPUT: true; the input reads as it did. -/
def pageDeletesSpec : ChangeSpec := { name := "pageDeletes", fn := fun _ => fun
  | [d1, d2] => { results := [.lit (.bool true)], args := [d1, d2] }
  | _ => none }
def pageDeletesRow : OpenClaim := { program := "ytmoognjegjeegaa", sum := "da678fa831b2a192503dbb1a43142e9da1ce6181c21fd6b4445945ad232dd7b1", func := "gharry/gharrylaw05.PageDeletes", spec := "pageDeletes", unfollowed := true, recurses := true, apart := false }
def PageDeletesSaid : Prop := pageDeletesRow.holds Try.pinned (OpenSpec.ofChange pageDeletesSpec)

/-- ITS FALSE NEIGHBOUR: 'it returns false'. Refute it at one input. -/
def pageDeletesWrong : ChangeSpec := { name := "pageDeletes", fn := fun _ => fun
  | [d1, d2] => { results := [.lit (.bool false)], args := [d1, d2] }
  | _ => none }
def PageDeletesWrongFalsely : Prop := pageDeletesRow.holds Try.pinned (OpenSpec.ofChange pageDeletesWrong)

/-- 'gharrylaw05.PageHalves': WHATEVER THE INPUT: true; the input reads as it did. -/
def pageHalvesSpec : ChangeSpec := { name := "pageHalves", fn := fun _ => fun
  | [d] => { results := [.lit (.bool true)], args := [d] }
  | _ => none }
def pageHalvesRow : OpenClaim := { program := "ytmoognjegjeegaa", sum := "da678fa831b2a192503dbb1a43142e9da1ce6181c21fd6b4445945ad232dd7b1", func := "gharry/gharrylaw05.PageHalves", spec := "pageHalves", apart := false }
def PageHalvesSaid : Prop := pageHalvesRow.holds Try.pinned (OpenSpec.ofChange pageHalvesSpec)

/-- ITS FALSE NEIGHBOUR: 'it returns false'. Refute it at one input. -/
def pageHalvesWrong : ChangeSpec := { name := "pageHalves", fn := fun _ => fun
  | [d] => { results := [.lit (.bool false)], args := [d] }
  | _ => none }
def PageHalvesWrongFalsely : Prop := pageHalvesRow.holds Try.pinned (OpenSpec.ofChange pageHalvesWrong)

/-- 'gharrylaw05.PagePlays': WHATEVER THE INPUT: true; the input reads as it did. -/
def pagePlaysSpec : ChangeSpec := { name := "pagePlays", fn := fun _ => fun
  | [d] => { results := [.lit (.bool true)], args := [d] }
  | _ => none }
def pagePlaysRow : OpenClaim := { program := "ytmoognjegjeegaa", sum := "da678fa831b2a192503dbb1a43142e9da1ce6181c21fd6b4445945ad232dd7b1", func := "gharry/gharrylaw05.PagePlays", spec := "pagePlays", unfollowed := true, recurses := true, apart := false }
def PagePlaysSaid : Prop := pagePlaysRow.holds Try.pinned (OpenSpec.ofChange pagePlaysSpec)

/-- ITS FALSE NEIGHBOUR: 'it returns false'. Refute it at one input. -/
def pagePlaysWrong : ChangeSpec := { name := "pagePlays", fn := fun _ => fun
  | [d] => { results := [.lit (.bool false)], args := [d] }
  | _ => none }
def PagePlaysWrongFalsely : Prop := pagePlaysRow.holds Try.pinned (OpenSpec.ofChange pagePlaysWrong)

/- THE SECOND FORM. 'bulk': how many values and letters a reading holds, each counted each time it is reached (what is shared counts as often as it is met; a slice's spare places count too). A statement '..UptoSaid' is the law's where the arguments, and the package variables that the reading takes, are together of bulk at most 1048576: NARROWER than '..Said'. Prove '..Said' where nothing that the law and all that it calls make is longer than what came in: it says more and counts as full. Else prove '..UptoSaid'. A law counts once. -/
mutual
def uptoBulk {H : Type} : DataW H → Nat
  | .lit (.string bytes) => bytes.length + 1
  | .lit _ => 1
  | .nil => 1
  | .ptr d => uptoBulk d + 1
  | .slice elems spare => uptoBulkAll elems + uptoBulkAll spare + 1
  | .agg parts => uptoBulkAll parts + 1
  | .iface _ d => uptoBulk d + 1
  | .map entries => uptoBulkEntries entries + 1
  | .held _ => 1
def uptoBulkAll {H : Type} : List (DataW H) → Nat
  | [] => 0
  | d :: r => uptoBulk d + uptoBulkAll r
def uptoBulkEntries {H : Type} : List (Lit × DataW H) → Nat
  | [] => 0
  | x :: r => uptoBulkEntry x + uptoBulkEntries r
def uptoBulkEntry {H : Type} : Lit × DataW H → Nat
  | (.string bytes, d) => bytes.length + uptoBulk d + 1
  | (_, d) => uptoBulk d + 1
 end
def uptoSmall : (H : Type) → List (DataW H) → Bool := fun _ ds => decide (uptoBulkAll ds ≤ 1048576)
def OpenSpec.upto (s : _root_.Go.ChangeSpec) : _root_.Go.OpenSpec := { _root_.Go.OpenSpec.ofChange s with cond := some uptoSmall }

/-- 'gharrylaw05.PageRights', WHERE WHAT IT READS IS OF BULK AT MOST 1048576: true; the input reads as it did. -/
def pageRightsUptoRow : OpenClaim := { program := "ytmoognjegjeegaa", sum := "da678fa831b2a192503dbb1a43142e9da1ce6181c21fd6b4445945ad232dd7b1", func := "gharry/gharrylaw05.PageRights", spec := "pageRights", unfollowed := true, recurses := true, apart := false, narrowed := true }
def PageRightsUptoSaid : Prop := pageRightsUptoRow.holds Try.pinned (OpenSpec.upto pageRightsSpec)

/-- 'gharrylaw05.PageMakes', WHERE WHAT IT READS IS OF BULK AT MOST 1048576: true; the input reads as it did. -/
def pageMakesUptoRow : OpenClaim := { program := "ytmoognjegjeegaa", sum := "da678fa831b2a192503dbb1a43142e9da1ce6181c21fd6b4445945ad232dd7b1", func := "gharry/gharrylaw05.PageMakes", spec := "pageMakes", apart := false, narrowed := true }
def PageMakesUptoSaid : Prop := pageMakesUptoRow.holds Try.pinned (OpenSpec.upto pageMakesSpec)

/-- 'gharrylaw05.PageNeeds', WHERE WHAT IT READS IS OF BULK AT MOST 1048576: true; the input reads as it did. -/
def pageNeedsUptoRow : OpenClaim := { program := "ytmoognjegjeegaa", sum := "da678fa831b2a192503dbb1a43142e9da1ce6181c21fd6b4445945ad232dd7b1", func := "gharry/gharrylaw05.PageNeeds", spec := "pageNeeds", apart := false, narrowed := true }
def PageNeedsUptoSaid : Prop := pageNeedsUptoRow.holds Try.pinned (OpenSpec.upto pageNeedsSpec)

/-- 'gharrylaw05.PageDeletes', WHERE WHAT IT READS IS OF BULK AT MOST 1048576: true; the input reads as it did. -/
def pageDeletesUptoRow : OpenClaim := { program := "ytmoognjegjeegaa", sum := "da678fa831b2a192503dbb1a43142e9da1ce6181c21fd6b4445945ad232dd7b1", func := "gharry/gharrylaw05.PageDeletes", spec := "pageDeletes", unfollowed := true, recurses := true, apart := false, narrowed := true }
def PageDeletesUptoSaid : Prop := pageDeletesUptoRow.holds Try.pinned (OpenSpec.upto pageDeletesSpec)

/-- 'gharrylaw05.PageHalves', WHERE WHAT IT READS IS OF BULK AT MOST 1048576: true; the input reads as it did. -/
def pageHalvesUptoRow : OpenClaim := { program := "ytmoognjegjeegaa", sum := "da678fa831b2a192503dbb1a43142e9da1ce6181c21fd6b4445945ad232dd7b1", func := "gharry/gharrylaw05.PageHalves", spec := "pageHalves", apart := false, narrowed := true }
def PageHalvesUptoSaid : Prop := pageHalvesUptoRow.holds Try.pinned (OpenSpec.upto pageHalvesSpec)

/-- 'gharrylaw05.PagePlays', WHERE WHAT IT READS IS OF BULK AT MOST 1048576: true; the input reads as it did. -/
def pagePlaysUptoRow : OpenClaim := { program := "ytmoognjegjeegaa", sum := "da678fa831b2a192503dbb1a43142e9da1ce6181c21fd6b4445945ad232dd7b1", func := "gharry/gharrylaw05.PagePlays", spec := "pagePlays", unfollowed := true, recurses := true, apart := false, narrowed := true }
def PagePlaysUptoSaid : Prop := pagePlaysUptoRow.holds Try.pinned (OpenSpec.upto pagePlaysSpec)

end Rows
end Go.Proofs.Ytmoognjegjeegaa
