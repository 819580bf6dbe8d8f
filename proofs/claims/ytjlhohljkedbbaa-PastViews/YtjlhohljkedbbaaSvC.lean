/- View: the cells that nobody turned. -/
import Derived.Test.YtjlhohljkedbbaaSvA
import Derived.Test.YtjlhohljkedbbaaSvB
import Derived.Test.YtjlhohljkedbbaaPtB
import Derived.Test.YtjlhohljkedbbaaPsH
import Derived.Test.YtjlhohljkedbbaaPsY
namespace Go.Proofs.Ytjlhohljkedbbaa.Pa
open Go.RowKit Gm Go.Maps
open Go.Proofs.Ytjlhohljkedbbaa.So (CL encC encL encO)
set_option linter.unusedVariables false
set_option linter.unusedSimpArgs false
set_option maxRecDepth 100000
def keepC (F : Lit → Option Value) (c : CL) : Bool := (F (.string c.1.data.toList)).isNone
/-- What is known of the map. -/
structure Fv (F : Lit → Option Value) : Prop where
  vs : ∀ l v, F l = some v → ∃ k, ∃ x : Ws, l = .string k ∧ v = .agg x.A
theorem stC : St 39 2 := ⟨⟨_, Try.underlying39⟩, by kernel_rfl⟩
theorem zCv (w : World) : (zeroValue 39).run Try.prog w = .ok (.agg #[.string ⟨#[]⟩, .string ⟨#[]⟩]) w := by kernel_rfl
/-- View's memory in its loops; w1: behind together. -/
structure V1 (w1 wr : World) (v : Value) (M : List CL) : Prop where
  bel : Below w1.heap.size w1 wr
  rw : Row wr 39 2 v (M.map encC)
  own : ∀ g, v.ownBlock = some g → w1.heap.size ≤ g
theorem encA (c : CL) : encC c = [.string c.1, .string c.2] := rfl
theorem oneA (k x : ByteArray) : ∀ u ∈ (#[.string k, .string x] : Array Value).toList, u.oneCell' = true := by
  intro u hu; simp at hu; rcases hu with rfl | rfl <;> rfl
/-- A slice that reads as cells. -/
structure Rv (w : World) (v : Value) (C : List CL) : Prop where
  ex : ∃ a c, v = .slice a C.length c ∧ ∀ i (hi : i < C.length), ∃ g o, a = some ⟨g, o, none⟩ ∧ g < w.heap.size ∧ w.cell? ⟨g, o + i * 2, none⟩ = some (.string C[i].1) ∧ w.cell? ⟨g, o + i * 2 + 1, none⟩ = some (.string C[i].2)
theorem Rv.bel {w w' : World} {v : Value} {C : List CL} (h : Rv w v C) (hb : Below w.heap.size w w') : Rv w' v C := by
  obtain ⟨a, c, e, h⟩ := h.ex
  refine ⟨a, c, e, fun i hi => ?_⟩
  obtain ⟨g, o, ea, hg, h1, h2⟩ := h i hi
  exact ⟨g, o, ea, Nat.lt_of_lt_of_le hg hb.size, by rw [World.cell?_of_block (hb.block g hg)]; exact h1, by rw [World.cell?_of_block (hb.block g hg)]; exact h2⟩
theorem Rv.at_ {w : World} {a : Option Addr} {n c : Nat} {C : List CL} (h : Rv w (.slice a n c) C) {i : Nat} (hi : i < C.length) : ∃ g o, a = some ⟨g, o, none⟩ ∧ g < w.heap.size ∧ w.cell? ⟨g, o + i * 2, none⟩ = some (.string C[i].1) ∧ w.cell? ⟨g, o + i * 2 + 1, none⟩ = some (.string C[i].2) := by
  obtain ⟨a', c', e, hh⟩ := h.ex
  cases e
  exact hh i hi
theorem Rv.of_row {w : World} {v : Value} {C : List CL} (h : Row w 39 2 v (C.map encC)) : Rv w v C := by
  obtain ⟨a, c, e, _⟩ := h.sl
  rw [List.length_map] at e
  refine ⟨a, c, e, fun i hi => ?_⟩
  subst e
  have h2 : Row w 39 2 (.slice a C.length c) (C.map encC) := h
  obtain ⟨g, ea, hg, hat⟩ := h2.at_ (i := i) (by rw [List.length_map]; exact hi)
  have hra := (hat w rfl).1
  rw [List.getElem_map] at hra
  exact ⟨g, 0, ea, hg, by have := hra 0 _ rfl; simpa using this, by have := hra 1 _ rfl; simpa using this⟩
section
variable {w1 wr w2 w3 : World} {v v2 : Value} {M : List CL}
theorem V1.more (h : V1 w1 wr v M) (hb : Below wr.heap.size wr w2) : V1 w1 w2 v M := ⟨thn h.bel hb, h.rw.bel hb, h.own⟩
theorem V1.push {k x : ByteArray} (h : V1 w1 wr v M) (hA : App wr w2 39 2 v v2 (M.map encC ++ [(#[.string k, .string x] : Array Value).toList])) : V1 w1 w2 v2 (M ++ [(k, x)]) :=
  ⟨h.bel.trans (hA.bel (fun g e => h.own g e) h.bel.size), by rw [List.map_append]; exact hA.row, fun g e => hA.own.elim (fun e2 => h.own g (e2.symm.trans e)) (fun e2 => by rw [e2] at e; cases e; exact h.bel.size)⟩
end
end Go.Proofs.Ytjlhohljkedbbaa.Pa
