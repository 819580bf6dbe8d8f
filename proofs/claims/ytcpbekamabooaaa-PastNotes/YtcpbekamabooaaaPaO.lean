/- The law's own past: note of one that goes on. -/
import Derived.Test.YtcpbekamabooaaaPaN
import Derived.Test.YtcpbekamabooaaaPaP
namespace Go.Proofs.Ytcpbekamabooaaa.Pa
open Go.RowKit Gm
set_option linter.unusedVariables false
set_option linter.unusedSimpArgs false
set_option maxRecDepth 100000
/-- Within note: the one in question is the i-th. -/
structure Mid (W : Nat → Prop) (w w3 : World) (pb g c i : Nat) (L : List Gv) : Prop where
  ex : ∃ W3, PlI W3 w3 pb (.slice (some ⟨g, 0, none⟩) L.length c) L ∧ (∀ j, W3 j → j < w3.heap.size) ∧ Fr W W3 w w3
  hi : i < L.length
  hz : ∀ j (hj : j < L.length), j ≠ i → L[j].kl.length = L[j].wl.length
section
variable {W W' : Nat → Prop} {w w' w1 w2 w3 w4 : World} {pb g c i b : Nat} {v v' : Value} {L : List Gv} {P : List Gn}
theorem Mid.bel (h : Mid W w w3 pb g c i L) (hb : Below w3.heap.size w3 w4) : Mid W w w4 pb g c i L := by
  obtain ⟨W3, h1, h2, h3⟩ := h.ex
  exact ⟨⟨W3, h1.keep fun j hj => hb.block j (h2 j hj), fun j hj => Nat.lt_of_lt_of_le (h2 j hj) hb.size, h3.below hb⟩, h.hi, h.hz⟩
theorem Mid.cells (h : Mid W w w3 pb g c i L) (hi : i < L.length) : w3.cell? ⟨pb, 0, none⟩ = some (.slice (some ⟨g, 0, none⟩) L.length c) ∧ w3.cell? ⟨g, i * 4 + 1, none⟩ = some (.int .i64 L[i].last) ∧ w3.cell? ⟨g, i * 4 + 2, none⟩ = some L[i].kv ∧ w3.cell? ⟨g, i * 4 + 3, none⟩ = some L[i].wv ∧ (∀ j, w3.frozen? ⟨g, j, none⟩ = false) := by
  obtain ⟨W3, h1, h2, h3⟩ := h.ex
  obtain ⟨g', e, _, q1, q2, q3, q4⟩ := h1.at_ hi
  cases e
  exact ⟨h1.is.c 0, q1, q2, q3, q4⟩
/-- A block that is no part of it stands. -/
theorem Mid.off (h : Mid W w w3 pb g c i L) {t : TypeId} {A : Array Value} (hb : At w3 b t A) (ht : t ≠ 62) (k : Nat) (u : Value) : At (w3.setCell ⟨g, k, none⟩ u) b t A := by
  obtain ⟨W3, h1, h2, h3⟩ := h.ex
  obtain ⟨cur, hc⟩ := h1.row.blkAt (g := g) rfl
  have hne : b ≠ g := fun e => by subst e; exact ht (hb.tag hc).symm
  exact hb.keep (Below.heap_setCell w3 _ u b hne)
theorem Mid.last (h : Mid W w w3 pb g c i L) (hi : i < L.length) (u : Int) : Mid W w (w3.setCell ⟨g, i * 4 + 1, none⟩ (.int .i64 u)) pb g c i (L.set i { L[i] with last := u }) := by
  obtain ⟨W3, h1, h2, h3⟩ := h.ex
  refine ⟨⟨W3, by rw [List.length_set]; exact h1.last hi u, fun j hj => by simpa [World.setCell] using h2 j hj, h3.set (h1.w2 g rfl) _ _⟩, by simpa using hi, fun j hj hne => ?_⟩
  rw [List.getElem_set_ne (by omega)]
  exact h.hz j (by simpa using hj) hne
theorem Mid.key (h : Mid W w w3 pb g c i L) (hi : i < L.length) {key : ByteArray} (hb : Below w3.heap.size w3 w1) (A : App w1 w2 9 1 L[i].kv v' (kC L[i].kl ++ [[.string key]])) : Mid W w (w2.setCell ⟨g, i * 4 + 2, none⟩ v') pb g c i (L.set i { L[i] with kl := L[i].kl ++ [key], kv := v' }) := by
  obtain ⟨W3, h1, h2, h3⟩ := h.ex
  have f1 := A.fr (W := W3) (W' := fun j => W3 j ∨ v'.ownBlock = some j) (fun g e => h1.w3 i hi g e) (fun j hj => hj)
  refine ⟨⟨_, by rw [List.length_set]; exact h1.key h2 hi hb A, fun j hj => ?_, ((h3.below hb).trans f1).set (Or.inl (h1.w2 g rfl)) _ _⟩, by simpa using hi, fun j hj hne => ?_⟩
  · have : j < w2.heap.size := by
      rcases hj with hj | hj
      · exact Nat.lt_of_lt_of_le (h2 j hj) (Nat.le_trans hb.size A.grow.size)
      · exact A.row.lt hj
    simpa [World.setCell] using this
  · rw [List.getElem_set_ne (by omega)]
    exact h.hz j (by simpa using hj) hne
theorem Mid.was (h : Mid W w w3 pb g c i L) (hi : i < L.length) {x : Ws} (hb : Below w3.heap.size w3 w1) (A : App w1 w2 39 2 L[i].wv v' (wC L[i].wl ++ [x.c])) : Mid W w (w2.setCell ⟨g, i * 4 + 3, none⟩ v') pb g c i (L.set i { L[i] with wl := L[i].wl ++ [x], wv := v' }) := by
  obtain ⟨W3, h1, h2, h3⟩ := h.ex
  have f1 := A.fr (W := W3) (W' := fun j => W3 j ∨ v'.ownBlock = some j) (fun g e => h1.w4 i hi g e) (fun j hj => hj)
  refine ⟨⟨_, by rw [List.length_set]; exact h1.was h2 hi hb A, fun j hj => ?_, ((h3.below hb).trans f1).set (Or.inl (h1.w2 g rfl)) _ _⟩, by simpa using hi, fun j hj hne => ?_⟩
  · have : j < w2.heap.size := by
      rcases hj with hj | hj
      · exact Nat.lt_of_lt_of_le (h2 j hj) (Nat.le_trans hb.size A.grow.size)
      · exact A.row.lt hj
    simpa [World.setCell] using this
  · rw [List.getElem_set_ne (by omega)]
    exact h.hz j (by simpa using hj) hne
theorem Mid.done (h : Mid W w w3 pb g c i L) (hi : i < L.length) (hz : L[i].kl.length = L[i].wl.length) : NtO W w w3 pb (L.map Gv.g) := by
  obtain ⟨W3, h1, h2, h3⟩ := h.ex
  refine ⟨W3, ⟨⟨_, L, h1, rfl, fun j hj => ?_⟩, h2⟩, h3⟩
  by_cases e : j = i
  · subst e; exact hz
  · exact h.hz j hj e
end
end Go.Proofs.Ytcpbekamabooaaa.Pa
