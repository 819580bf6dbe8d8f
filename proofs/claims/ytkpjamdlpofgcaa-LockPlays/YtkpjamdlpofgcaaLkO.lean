/- Holds and calls that a law is handed. -/
import Derived.Test.YtkpjamdlpofgcaaLkC
import Derived.Deep.Slices
import Derived.OpenShut
namespace Go.Proofs.Ytkpjamdlpofgcaa
open Go.RowKit
set_option linter.unusedVariables false
set_option linter.unusedSimpArgs false
set_option maxRecDepth 100000
section
variable {H : Type} {enc : TypeId × Value → H} {w : World}
theorem open_hd {fuel : Nat} {cs : Array Value} {x : DataW H × List MemPlace} (hcs : cs.size = Try.prog.cellsOf 23)
    (h : DataW.trod enc Try.prog w 0 (fun _ => true) true fuel 23 cs.toList = some x) : ∃ s : Hd, cs = s.A := by
  have h5 : Try.prog.cellsOf 23 = 5 := by kernel_rfl
  have h3 : Try.prog.cellsOf 3 = 1 := by kernel_rfl
  have h9 : Try.prog.cellsOf 9 = 1 := by kernel_rfl
  have h4 : Try.prog.cellsOf 4 = 1 := by kernel_rfl
  rw [h5] at hcs
  obtain ⟨xs, k, hk, hx, _, hxl, hf⟩ := DataW.trod_struct Try.underlying23 h
  obtain ⟨l⟩ := cs
  match xs, hxl, l, hcs with
  | [y0, y1, y2, y3, y4], _, [v0, v1, v2, v3, v4], _ =>
    have f0 := hf 0 _ rfl
    have f1 := hf 1 _ rfl
    have f2 := hf 2 _ rfl
    have f3 := hf 3 _ rfl
    have f4 := hf 4 _ rfl
    simp [h3, h9, h4] at f0 f1 f2 f3 f4
    obtain ⟨n0, i0, _, b0⟩ := DataW.trod_int Try.underlying3 f0
    obtain ⟨n1, i1, _, b1⟩ := DataW.trod_int Try.underlying3 f1
    obtain ⟨n2, i2, _⟩ := DataW.trod_string Try.underlying9 f2
    obtain ⟨n3, i3, _⟩ := DataW.trod_string Try.underlying9 f3
    obtain ⟨n4, i4, _⟩ := DataW.trod_bool Try.underlying4 f4
    simp at i0 i1 i2 i3 i4
    subst i0 i1 i2 i3 i4
    exact ⟨⟨n0, n1, n2, n3, n4⟩, rfl⟩
/-- What is known of the calls: the first len of them. -/
structure IsOps (w : World) (a : Option Addr) (len : Nat) (f : Nat → Op5) : Prop where
  at_ : ∀ i, i < len → ∃ b off, a = some ⟨b, off, none⟩ ∧ b < w.heap.size ∧ w.rangeAt b (off + i * 6) (f i).A.toList
theorem open_ops {fuel : Nat} {a : Option Addr} {len cap : Nat} {x : DataW H × List MemPlace}
    (h : DataW.trod enc Try.prog w 0 (fun _ => true) true fuel 29 [.slice a len cap] = some x) : ∃ f, IsOps w a len f := by
  rcases Go.Deep.open_slice Try.underlying29 h with ⟨hcs, _⟩ | ⟨ad, l, c, m, n, D, Pl, hcs, _, hl, hm, hmm, _, hall⟩
  · simp at hcs
    obtain ⟨rfl, rfl, rfl⟩ := hcs
    exact ⟨fun _ => ⟨0, zH⟩, ⟨fun i hi => absurd hi (by omega)⟩⟩
  · simp at hcs
    obtain ⟨rfl, rfl, rfl⟩ := hcs
    rw [if_pos rfl] at hmm
    subst hmm
    have hop : Try.prog.cellsOf 34 = 6 := by kernel_rfl
    have h5 : Try.prog.cellsOf 23 = 5 := by kernel_rfl
    have h3 : Try.prog.cellsOf 3 = 1 := by kernel_rfl
    have each : ∀ i, i < len → ∃ q : Op5, ∀ j u, q.A.toList[j]? = some u → w.cell? (ad.add (i * 6 + j)) = some u := by
      intro i hi
      obtain ⟨cs', g1, g2⟩ := hall i (by omega)
      rw [hop] at g1
      obtain ⟨_, hlen, hcell⟩ := World.cells?_some g1
      obtain ⟨xs, k, hk, _, _, hxl, hf⟩ := DataW.trod_struct Try.underlying34 g2
      match xs, hxl, cs', hlen with
      | [y0, y1], _, [v0, v1, v2, v3, v4, v5], hlen =>
        have f0 := hf 0 _ rfl
        have f1 := hf 1 _ rfl
        simp [h3, h5] at f0 f1
        obtain ⟨n0, i0, _, _⟩ := DataW.trod_int Try.underlying3 f0
        simp at i0
        subst i0
        obtain ⟨s, hs⟩ := open_hd (cs := #[v1, v2, v3, v4, v5]) (by rw [h5]; rfl) (by simpa using f1)
        refine ⟨⟨n0, s⟩, fun j u hu => ?_⟩
        have hj : j < 6 := (List.getElem?_eq_some_iff.1 hu).1
        have e0 := hcell j (by simpa using hj)
        rw [Go.Deep.add_add] at e0
        rw [e0]
        have hA : [Value.int .i64 n0, v1, v2, v3, v4, v5] = (Op5.mk n0 s).A.toList := by
          have := congrArg Array.toList hs
          simp [Hd.A] at this
          obtain ⟨rfl, rfl, rfl, rfl, rfl⟩ := this
          rfl
        rw [hA] at e0
        simp only [hA]
        exact hu
    haveI : Inhabited Op5 := ⟨⟨0, zH⟩⟩
    obtain ⟨q, hq⟩ := Go.Deep.choose_lt each
    refine ⟨q, ⟨fun i hi => ?_⟩⟩
    obtain ⟨b, off, spot⟩ := ad
    have g0 := hq 0 (by omega) 0 (.int .i64 (q 0).kd) rfl
    have hspot : spot = none := by simpa [Addr.add] using World.cell?_spot g0
    subst hspot
    have hadd : ∀ k, (⟨b, off, none⟩ : Addr).add k = ⟨b, off + k, none⟩ := fun k => by unfold Addr.add; split <;> simp_all
    refine ⟨b, off, rfl, ?_, fun j u hu => ?_⟩
    · rw [hadd] at g0
      rcases Nat.lt_or_ge b w.heap.size with h' | h'
      · exact h'
      · simp [World.cell?, Array.getElem?_eq_none h'] at g0
    · have := hq i hi j u hu
      rw [hadd, ← Nat.add_assoc] at this
      exact this
end
end Go.Proofs.Ytkpjamdlpofgcaa
