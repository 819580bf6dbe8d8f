/- Bounds of a past's list. -/
import Derived.Test.YtjlhohljkedbbaaPtC
namespace Go.Proofs.Ytjlhohljkedbbaa.Pa
open Go.RowKit Gm Go.Maps
set_option linter.unusedVariables false
set_option linter.unusedSimpArgs false
set_option maxRecDepth 100000
/-- Bounds of the list behind i notes. -/
structure PiB (P : List Gn) (i : Nat) : Prop where
  wf : ∀ g ∈ P, wfT g.txn
  ks : ∀ g ∈ P, ∀ p ∈ g.ks, p.1.size ≤ 9223372036854775807
  le : P.length ≤ i
  kl : ∀ g ∈ P, g.ks.length ≤ i
theorem turn_b {g : Gn} {r : Rc} {n : Int} {i : Nat} (hs : r.ky.size ≤ 9223372036854775807) (h1 : ∀ p ∈ g.ks, p.1.size ≤ 9223372036854775807) (h2 : g.ks.length ≤ i) : (∀ p ∈ (g.turn r n).ks, p.1.size ≤ 9223372036854775807) ∧ (g.turn r n).ks.length ≤ i + 1 := by
  rw [turn_ks]
  unfold tks
  split
  · refine ⟨fun p hp => ?_, by simp; omega⟩
    rcases List.mem_append.1 hp with h | h
    · exact h1 p h
    · rw [List.mem_singleton] at h; subst h; exact hs
  · exact ⟨h1, by omega⟩
theorem PiB.note {P : List Gn} {i : Nat} {r : Rc} (h : PiB P i) (hw : wfT r.tx) (hs : r.ky.size ≤ 9223372036854775807) (n : Int) : PiB (noteM P r n) (i + 1) := by
  unfold noteM
  split
  · exact ⟨h.wf, h.ks, by have := h.le; omega, fun g hg => by have := h.kl g hg; omega⟩
  · split
    · have he : ∀ g ∈ P.eraseIdx (fnd P r.tx), g ∈ P := fun g hg => List.mem_of_mem_eraseIdx hg
      exact ⟨fun g hg => h.wf g (he g hg), fun g hg => h.ks g (he g hg), by have := h.le; have := List.length_eraseIdx_le P (fnd P r.tx); omega, fun g hg => by have := h.kl g (he g hg); omega⟩
    · split
      · rename_i hf
        have hm : ∀ g ∈ P.modify (fnd P r.tx) (·.turn r n), g ∈ P ∨ ∃ g' ∈ P, g = g'.turn r n := fun g hg => by
          obtain ⟨j, hj, rfl⟩ := List.getElem_of_mem hg
          rw [List.getElem_modify]
          have hj2 : j < P.length := by simpa using hj
          split
          · exact Or.inr ⟨_, List.getElem_mem hj2, rfl⟩
          · exact Or.inl (List.getElem_mem hj2)
        refine ⟨fun g hg => ?_, fun g hg => ?_, by rw [List.length_modify]; have := h.le; omega, fun g hg => ?_⟩
        · rcases hm g hg with h1 | ⟨g', h1, rfl⟩
          · exact h.wf g h1
          · rw [turn_txn]; exact h.wf g' h1
        · rcases hm g hg with h1 | ⟨g', h1, rfl⟩
          · exact h.ks g h1
          · exact (turn_b hs (h.ks g' h1) (h.kl g' h1)).1
        · rcases hm g hg with h1 | ⟨g', h1, rfl⟩
          · have := h.kl g h1; omega
          · exact (turn_b hs (h.ks g' h1) (h.kl g' h1)).2
      · have hz := turn_b (g := zG r.tx) (r := r) (n := n) (i := i) hs (fun p hp => by cases hp) (Nat.zero_le _)
        refine ⟨fun g hg => ?_, fun g hg => ?_, by rw [List.length_append]; have := h.le; simp; omega, fun g hg => ?_⟩
        · rcases List.mem_append.1 hg with h1 | h1
          · exact h.wf g h1
          · rw [List.mem_singleton] at h1; subst h1; rw [turn_txn]; exact hw
        · rcases List.mem_append.1 hg with h1 | h1
          · exact h.ks g h1
          · rw [List.mem_singleton] at h1; subst h1; exact hz.1
        · rcases List.mem_append.1 hg with h1 | h1
          · have := h.kl g h1; omega
          · rw [List.mem_singleton] at h1; subst h1; exact hz.2
end Go.Proofs.Ytjlhohljkedbbaa.Pa
