/- The four texts that StoreReads is handed. -/
import Derived.Test.YtdgnfglghiecpaaReaW
import Derived.WalkKit
import Derived.ProofKit
import Derived.OpenShut
import Derived.ShutString
import Derived.SizedLaws
import Derived.Laws.IdiomArrays
namespace Go.Proofs.Ytdgnfglghiecpaa
open Go.ChangeShapes Go.WideShapes Go.ChangeAt Go.RowKit
set_option linter.unusedVariables false
set_option linter.unusedSimpArgs false
set_option maxRecDepth 100000

theorem okWide_arr {P : Program} {w : World} {r : Reach} {base : Nat} {t : TypeId} {v : Value} {n : Nat} {e : TypeId} (ht : P.underlying t = some (.array n e)) (h : Value.okWide P w r base t v) : ∃ cs, v = .agg cs ∧ cs.size = P.cellsOf t := by
  simp only [Value.okWide, ht] at h
  obtain ⟨cs, h1, h2, _⟩ := h
  exact ⟨cs, h1, h2⟩
theorem open_parts {H : Type} {enc : TypeId × Value → H} {w : World} {fuel : Nat} {cs : Array Value} {d : DataW H} {p : List MemPlace} (hcs : cs.size = Try.prog.cellsOf 44)
    (h : DataW.trod enc Try.prog w 0 (fun _ => true) true fuel 44 cs.toList = some (d, p)) (hw : ∀ n ∈ d.weights Try.prog 44, n ≤ reachBytes) :
    ∃ P : Nat → ByteArray, cs = #[.string (P 0), .string (P 1), .string (P 2), .string (P 3)] ∧ ∀ j, j < 4 → (P j).size ≤ 140737488351232 := by
  have h44 : Try.prog.cellsOf 44 = 4 := by kernel_rfl
  have h9 : Try.prog.cellsOf 9 = 1 := by kernel_rfl
  rw [h44] at hcs
  obtain ⟨l⟩ := cs
  match l, hcs with
  | [v0, v1, v2, v3], _ =>
    obtain ⟨y0, y1, y2, y3, n, hx, f0, f1, f2, f3⟩ := trod_array4 Try.underlying44 h9 h
    obtain ⟨s0, i0, j0, _⟩ := DataW.trod_string Try.underlying9 f0
    obtain ⟨s1, i1, j1, _⟩ := DataW.trod_string Try.underlying9 f1
    obtain ⟨s2, i2, j2, _⟩ := DataW.trod_string Try.underlying9 f2
    obtain ⟨s3, i3, j3, _⟩ := DataW.trod_string Try.underlying9 f3
    simp at i0 i1 i2 i3
    subst i0 i1 i2 i3 j0 j1 j2 j3
    simp only [Prod.mk.injEq] at hx
    obtain ⟨rfl, _⟩ := hx
    refine ⟨fun j => if j = 0 then s0 else if j = 1 then s1 else if j = 2 then s2 else s3, rfl, fun j hj => ?_⟩
    have w0 := hw s0.data.toList.length (by simp [DataW.weights, Try.underlying44, DataW.weightsAll])
    have w1 := hw s1.data.toList.length (by simp [DataW.weights, Try.underlying44, DataW.weightsAll])
    have w2 := hw s2.data.toList.length (by simp [DataW.weights, Try.underlying44, DataW.weightsAll])
    have w3 := hw s3.data.toList.length (by simp [DataW.weights, Try.underlying44, DataW.weightsAll])
    simp [reachBytes] at w0 w1 w2 w3
    have : j = 0 ∨ j = 1 ∨ j = 2 ∨ j = 3 := by omega
    rcases this with rfl | rfl | rfl | rfl
    · exact w0
    · exact w1
    · exact w2
    · exact w3
end Go.Proofs.Ytdgnfglghiecpaa
