/-
  No cell of these rows narrows 'for every input' (looked for: loops, veiled, ifaces, maps, wideKeys, modest, calm, conditions, laid).
  DERIVED. THE GIVEN ROWS OF THIS SEAT. 5 by the template 'for every input the law returns true; each argument reads behind the call as it read before'; 0 by the template 'total and deterministic' (their statements: YtkpjamdlpofgcaaTotals.lean).
  GIVEN WITH THE SEED: the statements are not yours to turn. If you find one false, say at which input.
  Laid BY PROGRAM, IN A SANDBOX (cutbox-rows.mjs): the forced cells as the released guide's own fill.sh prints them over the translation fc02817736390511… (all of the seat's roots in one cut). By AI agents, Wed Nov 11 2026. No macro, syntax, notation, axiom, sorry.
-/
import Derived.Test.YtkpjamdlpofgcaaChecked
import GoSem.Claim
import GoSem.ClaimJoined
import GoSem.ClaimMapViews
import Derived.JoinedTies
import Derived.KernelRfl
namespace Go.Proofs.Ytkpjamdlpofgcaa
/- THE CELL 'sum', in the pinned program and in every row, IS THE sha256 OF THE DUMP (.gsa) THAT YtkpjamdlpofgcaaProg.lean LOADS. Nothing in Lean hashes anything: it is a label: what it is worth is what the hold of that sum in a sandbox is worth. -/
noncomputable def Try.pinned : Pinned := { name := "ytkpjamdlpofgcaa", sum := "fc028177363905115e764d00abb0ac4a73ba246298255cd1c54bfb07885e19ef", checked := Try.checked }
namespace Rows
def none {H : Type} : Left H := { results := [], args := [] }

/-- 'gharrylaw12.LockRights': WHATEVER THE INPUT: true; the input reads as it did. -/
def lockRightsSpec : ChangeSpec := { name := "lockRights", fn := fun _ => fun
  | [d1, d2] => { results := [.lit (.bool true)], args := [d1, d2] }
  | _ => none }
def lockRightsRow : OpenClaim := { program := "ytkpjamdlpofgcaa", sum := "fc028177363905115e764d00abb0ac4a73ba246298255cd1c54bfb07885e19ef", func := "gharry/gharrylaw12.LockRights", spec := "lockRights", unfollowed := true, recurses := true, apart := false }
def LockRightsSaid : Prop := lockRightsRow.holds Try.pinned (OpenSpec.ofChange lockRightsSpec)

/-- ITS FALSE NEIGHBOUR: 'it returns false'. Refute it at one input. -/
def lockRightsWrong : ChangeSpec := { name := "lockRights", fn := fun _ => fun
  | [d1, d2] => { results := [.lit (.bool false)], args := [d1, d2] }
  | _ => none }
def LockRightsWrongFalsely : Prop := lockRightsRow.holds Try.pinned (OpenSpec.ofChange lockRightsWrong)

/-- 'gharrylaw12.LockMeets': WHATEVER THE INPUT: true; the input reads as it did. -/
def lockMeetsSpec : ChangeSpec := { name := "lockMeets", fn := fun _ => fun
  | [d1, d2, d3] => { results := [.lit (.bool true)], args := [d1, d2, d3] }
  | _ => none }
def lockMeetsRow : OpenClaim := { program := "ytkpjamdlpofgcaa", sum := "fc028177363905115e764d00abb0ac4a73ba246298255cd1c54bfb07885e19ef", func := "gharry/gharrylaw12.LockMeets", spec := "lockMeets", unfollowed := true, recurses := true, apart := false }
def LockMeetsSaid : Prop := lockMeetsRow.holds Try.pinned (OpenSpec.ofChange lockMeetsSpec)

/-- ITS FALSE NEIGHBOUR: 'it returns false'. Refute it at one input. -/
def lockMeetsWrong : ChangeSpec := { name := "lockMeets", fn := fun _ => fun
  | [d1, d2, d3] => { results := [.lit (.bool false)], args := [d1, d2, d3] }
  | _ => none }
def LockMeetsWrongFalsely : Prop := lockMeetsRow.holds Try.pinned (OpenSpec.ofChange lockMeetsWrong)

/-- 'gharrylaw12.LockPlays': WHATEVER THE INPUT: true; the input reads as it did. -/
def lockPlaysSpec : ChangeSpec := { name := "lockPlays", fn := fun _ => fun
  | [d] => { results := [.lit (.bool true)], args := [d] }
  | _ => none }
def lockPlaysRow : OpenClaim := { program := "ytkpjamdlpofgcaa", sum := "fc028177363905115e764d00abb0ac4a73ba246298255cd1c54bfb07885e19ef", func := "gharry/gharrylaw12.LockPlays", spec := "lockPlays", unfollowed := true, recurses := true, apart := false }
def LockPlaysSaid : Prop := lockPlaysRow.holds Try.pinned (OpenSpec.ofChange lockPlaysSpec)

/-- ITS FALSE NEIGHBOUR: 'it returns false'. Refute it at one input. -/
def lockPlaysWrong : ChangeSpec := { name := "lockPlays", fn := fun _ => fun
  | [d] => { results := [.lit (.bool false)], args := [d] }
  | _ => none }
def LockPlaysWrongFalsely : Prop := lockPlaysRow.holds Try.pinned (OpenSpec.ofChange lockPlaysWrong)

/-- 'gharrylaw12.LockApart': WHATEVER THE INPUT: true; the input reads as it did. -/
def lockApartSpec : ChangeSpec := { name := "lockApart", fn := fun _ => fun
  | [d] => { results := [.lit (.bool true)], args := [d] }
  | _ => none }
def lockApartRow : OpenClaim := { program := "ytkpjamdlpofgcaa", sum := "fc028177363905115e764d00abb0ac4a73ba246298255cd1c54bfb07885e19ef", func := "gharry/gharrylaw12.LockApart", spec := "lockApart", unfollowed := true, recurses := true, apart := false }
def LockApartSaid : Prop := lockApartRow.holds Try.pinned (OpenSpec.ofChange lockApartSpec)

/-- ITS FALSE NEIGHBOUR: 'it returns false'. Refute it at one input. -/
def lockApartWrong : ChangeSpec := { name := "lockApart", fn := fun _ => fun
  | [d] => { results := [.lit (.bool false)], args := [d] }
  | _ => none }
def LockApartWrongFalsely : Prop := lockApartRow.holds Try.pinned (OpenSpec.ofChange lockApartWrong)

/-- 'gharrylaw12.LockNobody': WHATEVER THE INPUT: true; the input reads as it did. -/
def lockNobodySpec : ChangeSpec := { name := "lockNobody", fn := fun _ => fun
  | [d] => { results := [.lit (.bool true)], args := [d] }
  | _ => none }
def lockNobodyRow : OpenClaim := { program := "ytkpjamdlpofgcaa", sum := "fc028177363905115e764d00abb0ac4a73ba246298255cd1c54bfb07885e19ef", func := "gharry/gharrylaw12.LockNobody", spec := "lockNobody", unfollowed := true, recurses := true, apart := false }
def LockNobodySaid : Prop := lockNobodyRow.holds Try.pinned (OpenSpec.ofChange lockNobodySpec)

/-- ITS FALSE NEIGHBOUR: 'it returns false'. Refute it at one input. -/
def lockNobodyWrong : ChangeSpec := { name := "lockNobody", fn := fun _ => fun
  | [d] => { results := [.lit (.bool false)], args := [d] }
  | _ => none }
def LockNobodyWrongFalsely : Prop := lockNobodyRow.holds Try.pinned (OpenSpec.ofChange lockNobodyWrong)

/- THE SECOND FORM. 'bulk': how many values and letters a reading holds, each counted each time it is reached (what is shared counts as often as it is met; a slice's spare places count too). A statement '..UptoSaid' is the law's where the arguments, and the package variables that the reading takes, are together of bulk at most 1048576: NARROWER than '..Said'. Prove '..Said' where nothing that the law and all that it calls make is longer than what came in: it says more and counts as full. Else prove '..UptoSaid'. A law counts once. -/
mutual
def uptoBulk {H : Type} : DataW H → Nat
  | .lit (.string bytes) => bytes.length + 1
  | .lit _ => 1
  | .nil => 1
  | .ptr d => uptoBulk d + 1
  | .slice elems spare => uptoBulkAll elems + uptoBulkAll spare + 1
  | .agg parts => uptoBulkAll parts + 1
  | .iface _ d => uptoBulk d + 1
  | .map entries => uptoBulkEntries entries + 1
  | .held _ => 1
def uptoBulkAll {H : Type} : List (DataW H) → Nat
  | [] => 0
  | d :: r => uptoBulk d + uptoBulkAll r
def uptoBulkEntries {H : Type} : List (Lit × DataW H) → Nat
  | [] => 0
  | x :: r => uptoBulkEntry x + uptoBulkEntries r
def uptoBulkEntry {H : Type} : Lit × DataW H → Nat
  | (.string bytes, d) => bytes.length + uptoBulk d + 1
  | (_, d) => uptoBulk d + 1
 end
def uptoSmall : (H : Type) → List (DataW H) → Bool := fun _ ds => decide (uptoBulkAll ds ≤ 1048576)
def OpenSpec.upto (s : _root_.Go.ChangeSpec) : _root_.Go.OpenSpec := { _root_.Go.OpenSpec.ofChange s with cond := some uptoSmall }

/-- 'gharrylaw12.LockRights', WHERE WHAT IT READS IS OF BULK AT MOST 1048576: true; the input reads as it did. -/
def lockRightsUptoRow : OpenClaim := { program := "ytkpjamdlpofgcaa", sum := "fc028177363905115e764d00abb0ac4a73ba246298255cd1c54bfb07885e19ef", func := "gharry/gharrylaw12.LockRights", spec := "lockRights", unfollowed := true, recurses := true, apart := false, narrowed := true }
def LockRightsUptoSaid : Prop := lockRightsUptoRow.holds Try.pinned (OpenSpec.upto lockRightsSpec)

/-- 'gharrylaw12.LockMeets', WHERE WHAT IT READS IS OF BULK AT MOST 1048576: true; the input reads as it did. -/
def lockMeetsUptoRow : OpenClaim := { program := "ytkpjamdlpofgcaa", sum := "fc028177363905115e764d00abb0ac4a73ba246298255cd1c54bfb07885e19ef", func := "gharry/gharrylaw12.LockMeets", spec := "lockMeets", unfollowed := true, recurses := true, apart := false, narrowed := true }
def LockMeetsUptoSaid : Prop := lockMeetsUptoRow.holds Try.pinned (OpenSpec.upto lockMeetsSpec)

/-- 'gharrylaw12.LockPlays', WHERE WHAT IT READS IS OF BULK AT MOST 1048576: true; the input reads as it did. -/
def lockPlaysUptoRow : OpenClaim := { program := "ytkpjamdlpofgcaa", sum := "fc028177363905115e764d00abb0ac4a73ba246298255cd1c54bfb07885e19ef", func := "gharry/gharrylaw12.LockPlays", spec := "lockPlays", unfollowed := true, recurses := true, apart := false, narrowed := true }
def LockPlaysUptoSaid : Prop := lockPlaysUptoRow.holds Try.pinned (OpenSpec.upto lockPlaysSpec)

/-- 'gharrylaw12.LockApart', WHERE WHAT IT READS IS OF BULK AT MOST 1048576: true; the input reads as it did. -/
def lockApartUptoRow : OpenClaim := { program := "ytkpjamdlpofgcaa", sum := "fc028177363905115e764d00abb0ac4a73ba246298255cd1c54bfb07885e19ef", func := "gharry/gharrylaw12.LockApart", spec := "lockApart", unfollowed := true, recurses := true, apart := false, narrowed := true }
def LockApartUptoSaid : Prop := lockApartUptoRow.holds Try.pinned (OpenSpec.upto lockApartSpec)

/-- 'gharrylaw12.LockNobody', WHERE WHAT IT READS IS OF BULK AT MOST 1048576: true; the input reads as it did. -/
def lockNobodyUptoRow : OpenClaim := { program := "ytkpjamdlpofgcaa", sum := "fc028177363905115e764d00abb0ac4a73ba246298255cd1c54bfb07885e19ef", func := "gharry/gharrylaw12.LockNobody", spec := "lockNobody", unfollowed := true, recurses := true, apart := false, narrowed := true }
def LockNobodyUptoSaid : Prop := lockNobodyUptoRow.holds Try.pinned (OpenSpec.upto lockNobodySpec)

end Rows
end Go.Proofs.Ytkpjamdlpofgcaa
