/- A row of cells, and the worlds of its sort. -/
import Derived.Test.YtjlhohljkedbbaaSvC
namespace Go.Proofs.Ytjlhohljkedbbaa.Pa
open Go.RowKit Gm Go.Maps Go.Sort
open Go.Proofs.Ytjlhohljkedbbaa.So (CL encC encL encO)
set_option linter.unusedVariables false
set_option linter.unusedSimpArgs false
set_option maxRecDepth 100000
section
variable {w w' : World} {g n c : Nat} {D : List CL} {d : Array CL}
theorem encF (D : List CL) : ∀ e ∈ D.map encC, e.length = 2 := fun e he => by
  obtain ⟨x, _, rfl⟩ := List.mem_map.1 he; rfl
theorem rw_of_row (h : Row w 39 2 (.slice (some ⟨g, 0, none⟩) n c) (D.map encC)) (hn : D.length ≤ 100000) : So.Rw w g D.toArray := by
  have hb : ∃ cur, w.heap[g]? = some (.cells cur 39) := h.blkAt rfl
  obtain ⟨cur, hg⟩ := hb
  refine ⟨fun j hj => ?_, lt_of hg, by simpa using hn⟩
  rw [size_flatK] at hj
  have hj2 : j < D.length * 2 := by simpa using hj
  have hi : j / 2 < D.length := by omega
  refine ⟨?_, Joins.unfrozen_of_block hg _⟩
  have hs := h.seg (A := []) (M := D.map encC) (R := []) (by simp) j
  have hf := flat_get (encF D) (j / 2) (by rw [List.length_map]; exact hi) (j % 2) (by omega)
  rw [show j / 2 * 2 + j % 2 = j by omega] at hf
  have hget : (flatK encC 2 D.toArray)[j]! = (encC D[j / 2])[j % 2]! := by
    rw [get_flatK encC 2 D.toArray j (by simpa using hj2)]
    congr 2
    rw [getElem!_pos D.toArray (j / 2) (by simpa using hi)]
    simp
  have hl : j % 2 < (encC D[j / 2]).length := by rw [encL]; omega
  have e2 : (encC D[j / 2])[j % 2]? = some ((encC D[j / 2])[j % 2]!) := by rw [getElem!_pos (encC D[j / 2]) (j % 2) hl]; exact List.getElem?_eq_getElem hl
  rw [List.getElem_map, e2] at hf
  have := hs _ hf
  rw [hget]
  simpa using this
theorem row_of_wd (h : Row w 39 2 (.slice (some ⟨g, 0, none⟩) n c) (D.map encC)) (hR : So.Rw w g D.toArray) (hW : So.Wd w w' g d) (hs : d.size = D.length) : Row w' 39 2 (.slice (some ⟨g, 0, none⟩) n c) (d.toList.map encC) ∧ w.grownBy w' (some g) := by
  have hR2 := hR.wd hW (by simpa using hs)
  obtain ⟨m, os, rfl⟩ := hW.ex
  rcases h.row.2 with ⟨e, _⟩ | ⟨g', cap, cur, e, hB, hg, h3, h4, h5, h6⟩
  · cases e
  cases e
  have hgl := lt_of hg
  have hg2 : ∃ cur2, (sortWorldK encC 2 w g 0 m d os).heap[g]? = some (.cells cur2 39) ∧ cur2.size = cur.size := by
    refine ⟨putCells id 0 (flatK encC 2 d) cur, ?_, ?_⟩
    · unfold sortWorldK putRowK
      rw [heap_grow_old _ _ (by simpa [putRow, mapBlock, Sort.ahead] using hgl)]
      simp [putRow, mapBlock, Sort.ahead, Array.getElem?_modify, hg, onCells]
    · simp [putCells]
  obtain ⟨cur2, hg2, hcs⟩ := hg2
  have hlen : (d.toList.map encC).length = (D.map encC).length := by simp [hs]
  have hfl : (d.toList.map encC).flatten.length = (D.map encC).length * 2 := by rw [flat_len (encF d.toList), hlen]
  have hDl : (D.map encC).flatten.length = (D.map encC).length * 2 := flat_len (encF D)
  refine ⟨⟨encF _, by rw [hfl, hlen], Or.inr ⟨g, c, cur2, by rw [hlen], Nat.zero_le _, hg2, by rw [hlen]; exact h3, h4, by rw [hcs]; exact h5, ?_⟩⟩, ⟨rfl, rfl, rfl, by simp [sortWorldK, grow, putRowK, putRow, mapBlock, Sort.ahead], fun k hk hne => ?_⟩⟩
  · have hsz : (D.map encC).length * 2 ≤ cur2.size := by rw [hcs, h5]; exact Nat.mul_le_mul_right _ h3
    rw [hlen]
    apply List.ext_getElem?
    intro j
    rcases Nat.lt_or_ge j ((D.map encC).length * 2) with hj | hj
    · rw [List.getElem?_take_of_lt hj]
      have hjd : j < d.size * 2 := by rw [hs]; simpa using hj
      have h1 := (hR2.holds j (by rw [size_flatK]; exact hjd)).1
      rw [Nat.zero_add, cell_of_row _ g _ cur2 39 (0, 0) hg2, get_flatK encC 2 d j hjd] at h1
      have hi : j / 2 < d.size := by omega
      have hf := flat_get (encF d.toList) (j / 2) (by simpa using hi) (j % 2) (by omega)
      rw [show j / 2 * 2 + j % 2 = j by omega] at hf
      have hl : j % 2 < (encC d[j / 2]!).length := by rw [encL]; omega
      rw [hf]
      have e3 : (d.toList.map encC)[j / 2]'(by simpa using hi) = encC d[j / 2]! := by
        rw [List.getElem_map, getElem!_pos d (j / 2) hi]; simp
      rw [e3]
      have h1' : cur2.toList[j]? = some (id (encC d[j / 2]!)[j % 2]!) := by simpa using h1
      rw [h1', getElem!_pos (encC d[j / 2]!) (j % 2) hl]
      exact (List.getElem?_eq_getElem hl).symm
    · rw [List.getElem?_eq_none (by rw [List.length_take]; omega), List.getElem?_eq_none (by omega)]
  · have : g ≠ k := fun e => hne (by rw [e])
    unfold sortWorldK putRowK
    rw [heap_grow_old _ _ (by simpa [putRow, mapBlock, Sort.ahead] using hk)]
    simp [putRow, mapBlock, Sort.ahead, Array.getElem?_modify, this]
end
end Go.Proofs.Ytjlhohljkedbbaa.Pa
