/- A base that a law is handed. -/
import Derived.Test.YtljedbakdlhlbaaBsMem
import Derived.Deep.Slices
import Derived.OpenShut
namespace Go.Proofs.Ytljedbakdlhlbaa
open Go.RowKit
set_option linter.unusedVariables false
set_option linter.unusedSimpArgs false
set_option maxRecDepth 100000

section
variable {H : Type} {enc : TypeId × Value → H} {w : World}
/-- Its numbers are of 64 bits. -/
structure I64 (s : Bs) : Prop where
  nd : -9223372036854775808 ≤ s.nd ∧ s.nd ≤ 9223372036854775807
  bt : -9223372036854775808 ≤ s.bt ∧ s.bt ≤ 9223372036854775807
  gn : -9223372036854775808 ≤ s.gn ∧ s.gn ≤ 9223372036854775807
  ck : -9223372036854775808 ≤ s.ck ∧ s.ck ≤ 9223372036854775807
  rd : -9223372036854775808 ≤ s.rd ∧ s.rd ≤ 9223372036854775807
  sn : -9223372036854775808 ≤ s.sn ∧ s.sn ≤ 9223372036854775807
  jn : -9223372036854775808 ≤ s.jn ∧ s.jn ≤ 9223372036854775807
theorem open_bs {fuel : Nat} {cs : Array Value} {x : DataW H × List MemPlace} (hcs : cs.size = Try.prog.cellsOf 23)
    (h : DataW.trod enc Try.prog w 0 (fun _ => true) true fuel 23 cs.toList = some x) : ∃ s : Bs, cs = s.A ∧ I64 s := by
  have h7 : Try.prog.cellsOf 23 = 7 := by kernel_rfl
  have h3 : Try.prog.cellsOf 3 = 1 := by kernel_rfl
  rw [h7] at hcs
  obtain ⟨xs, k, hk, hx, _, hxl, hf⟩ := DataW.trod_struct Try.underlying23 h
  obtain ⟨l⟩ := cs
  match xs, hxl, l, hcs with
  | [y0, y1, y2, y3, y4, y5, y6], _, [v0, v1, v2, v3, v4, v5, v6], _ =>
    have f0 := hf 0 _ rfl
    have f1 := hf 1 _ rfl
    have f2 := hf 2 _ rfl
    have f3 := hf 3 _ rfl
    have f4 := hf 4 _ rfl
    have f5 := hf 5 _ rfl
    have f6 := hf 6 _ rfl
    simp [h3] at f0 f1 f2 f3 f4 f5 f6
    obtain ⟨n0, i0, _, b0⟩ := DataW.trod_int Try.underlying3 f0
    obtain ⟨n1, i1, _, b1⟩ := DataW.trod_int Try.underlying3 f1
    obtain ⟨n2, i2, _, b2⟩ := DataW.trod_int Try.underlying3 f2
    obtain ⟨n3, i3, _, b3⟩ := DataW.trod_int Try.underlying3 f3
    obtain ⟨n4, i4, _, b4⟩ := DataW.trod_int Try.underlying3 f4
    obtain ⟨n5, i5, _, b5⟩ := DataW.trod_int Try.underlying3 f5
    obtain ⟨n6, i6, _, b6⟩ := DataW.trod_int Try.underlying3 f6
    simp at i0 i1 i2 i3 i4 i5 i6
    subst i0 i1 i2 i3 i4 i5 i6
    exact ⟨⟨n0, n1, n2, n3, n4, n5, n6⟩, rfl, ⟨bounds_i64 b0, bounds_i64 b1, bounds_i64 b2, bounds_i64 b3, bounds_i64 b4, bounds_i64 b5, bounds_i64 b6⟩⟩
end
end Go.Proofs.Ytljedbakdlhlbaa
