/- Table. -/
import Derived.Test.YtjlhohljkedbbaaPsK
namespace Go.Proofs.Ytjlhohljkedbbaa.Pa
open Go.RowKit Gm Go.Maps
set_option linter.unusedVariables false
set_option linter.unusedSimpArgs false
set_option maxRecDepth 100000
theorem elA : El 27 138 2 (.agg #[.int .i64 0, .int .i64 0]) := ⟨Try.underlying27, by
  obtain ⟨i, h1, h2, h3, h4⟩ := info_parts (show (Try.prog.info? 138).map (fun i => (i.zero, i.size, i.bytes)) = some (some (.agg #[.int .i64 0, .int .i64 0]), 2, 16) by kernel_rfl)
  exact ⟨i, h1, h2, h3, by omega⟩, rfl, by omega⟩
def lastL (L : List Dv) (t : Int) : Int := ((lkD L t).map fun d => d.g.last).getD 0
def tabC (L : List Dv) (ts : List Int) : List (List Value) := ts.map fun t => [.int .i64 t, .int .i64 (lastL L t)]
/-- A new row of elements of k cells. -/
structure RwK (w w' : World) (t : TypeId) (k : Nat) (e : Ending) (M : List (List Value)) : Prop where
  ex : ∃ v, e = .returned v ∧ Row w' t k v M ∧ ∀ g, v.ownBlock = some g → w.heap.size ≤ g
  bel : Below w.heap.size w w'
section
variable {W : Nat → Prop} {w w' : World} {pb bl bw : Nat} {L : List Dv} {P : List Gn}
theorem Row.ne2 {t t' : TypeId} {k k' : Nat} {v v' : Value} {M M' : List (List Value)} (h : Row w t k v M) (h' : Row w t' k' v' M') (ht : t ≠ t') {g : Nat} (e : v.ownBlock = some g) : v'.ownBlock ≠ some g := fun e' => by
  obtain ⟨c, hc⟩ := h.blkAt e
  obtain ⟨c', hc'⟩ := h'.blkAt e'
  rw [hc] at hc'
  simp at hc'
  exact ht hc'.2
/-- Table's memory in its loop. -/
structure TaM (w wr : World) (v0 v : Value) (L : List Dv) (ts : List Int) (i : Nat) : Prop where
  bel : Below w.heap.size w wr
  r0 : Row wr 3 1 v0 (iC ts)
  rw : Row wr 138 2 v (tabC L (ts.take i))
  own : ∀ g, v.ownBlock = some g → w.heap.size ≤ g
theorem lookL {t : Int} (h : DpI W w pb bl bw L) (hw : wfT t) : (Instr.lookup 48 (.map (some bl)) (.int .i64 t) false).run Try.prog w = .ok (.int .i64 (lastL L t)) w := by
  have := h.la.look1 KI uL (zLv _) (keyI hw)
  rw [this, fL_at]
  unfold lastL
  cases lkD L t <;> rfl
end
end Go.Proofs.Ytjlhohljkedbbaa.Pa
