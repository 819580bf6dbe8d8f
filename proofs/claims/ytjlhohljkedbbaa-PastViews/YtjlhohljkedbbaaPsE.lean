/- A record that a law is handed. -/
import Derived.Test.YtjlhohljkedbbaaPsN
import Derived.Test.YtjlhohljkedbbaaGmO
namespace Go.Proofs.Ytjlhohljkedbbaa.Pa
open Go.RowKit Gm Go.Maps
set_option linter.unusedVariables false
set_option linter.unusedSimpArgs false
set_option maxRecDepth 100000
/-- What reads as a record. -/
structure RecL (cs : List Value) : Prop where
  ex : ∃ r I T, cs = (Rc.A r I T).toList ∧ wfT r.tx ∧ r.ky.size ≤ 9223372036854775807 ∧ r.ol.size ≤ 9223372036854775807
theorem open_rc {H : Type} {enc : TypeId × Value → H} {w : World} {fuel : Nat} {cs : List Value} {x : DataW H × List MemPlace} (h : DataW.trod enc Try.prog w 0 (fun _ => true) true fuel 29 cs = some x) (hcs : cs.length = 13) : RecL cs := by
  have h3 : Try.prog.cellsOf 3 = 1 := by kernel_rfl
  have h9 : Try.prog.cellsOf 9 = 1 := by kernel_rfl
  have hi : Try.prog.cellsOf 26 = 1 := by kernel_rfl
  have ht : Try.prog.cellsOf 27 = 1 := by kernel_rfl
  obtain ⟨xs, k, hk, hx, _, hxl, hf⟩ := DataW.trod_struct Try.underlying29 h
  match xs, hxl, cs, hcs with
  | [y0, y1, y2, y3, y4, y5, y6, y7, y8, y9, y10, y11, y12], _, [v0, v1, v2, v3, v4, v5, v6, v7, v8, v9, v10, v11, v12], _ =>
    have f0 := hf 0 _ rfl
    have f1 := hf 1 _ rfl
    have f2 := hf 2 _ rfl
    have f3 := hf 3 _ rfl
    have f4 := hf 4 _ rfl
    have f5 := hf 5 _ rfl
    have f6 := hf 6 _ rfl
    have f7 := hf 7 _ rfl
    have f8 := hf 8 _ rfl
    have f11 := hf 11 _ rfl
    have f12 := hf 12 _ rfl
    simp [h3, h9, hi, ht] at f0 f1 f2 f3 f4 f5 f6 f7 f8 f11 f12
    obtain ⟨n0, i0, _, _⟩ := DataW.trod_int Try.underlying3 f0
    obtain ⟨n1, i1, _, b1⟩ := DataW.trod_int Try.underlying3 f1
    obtain ⟨n2, i2, _, _⟩ := DataW.trod_int Try.underlying3 f2
    obtain ⟨n3, i3, _, _⟩ := DataW.trod_int Try.underlying3 f3
    obtain ⟨n4, i4, _, _⟩ := DataW.trod_int Try.underlying3 f4
    obtain ⟨n5, i5, _, z5⟩ := DataW.trod_string Try.underlying9 f5
    obtain ⟨n6, i6, _, z6⟩ := DataW.trod_string Try.underlying9 f6
    obtain ⟨n7, i7, _, z7⟩ := DataW.trod_string Try.underlying9 f7
    obtain ⟨n8, i8, _, _⟩ := DataW.trod_int Try.underlying3 f8
    obtain ⟨n11, i11, _, _⟩ := DataW.trod_int Try.underlying3 f11
    obtain ⟨n12, i12, _, _⟩ := DataW.trod_int Try.underlying3 f12
    simp at i0 i1 i2 i3 i4 i5 i6 i7 i8 i11 i12
    subst i0 i1 i2 i3 i4 i5 i6 i7 i8 i11 i12
    exact ⟨⟨n0, n1, n2, n3, n4, n5, n6, n7, n8, n11, n12⟩, v9, v10, rfl, b1, z5, z6⟩
theorem open_rcA {H : Type} {enc : TypeId × Value → H} {w : World} {fuel : Nat} {cs : Array Value} {x : DataW H × List MemPlace} (hcs : cs.size = Try.prog.cellsOf 29) (h : DataW.trod enc Try.prog w 0 (fun _ => true) true fuel 29 cs.toList = some x) : ∃ r I T, cs = Rc.A r I T ∧ wfT r.tx ∧ r.ky.size ≤ 9223372036854775807 := by
  have hk : Try.prog.cellsOf 29 = 13 := by kernel_rfl
  obtain ⟨r, I, T, e, h1, h2, _⟩ := (open_rc h (by rw [Array.length_toList, hcs, hk])).ex
  exact ⟨r, I, T, Array.toList_inj.1 e, h1, h2⟩
end Go.Proofs.Ytjlhohljkedbbaa.Pa
