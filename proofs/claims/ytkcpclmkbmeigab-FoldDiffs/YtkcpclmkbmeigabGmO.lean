/- Slices that a law is handed: what lies in memory where they read as data. -/
import Derived.Test.YtkcpclmkbmeigabGm
import Derived.Deep.Slices
import Derived.OpenShut
namespace Go.Proofs.Ytkcpclmkbmeigab.Gm
open Go.RowKit
set_option linter.unusedVariables false
set_option linter.unusedSimpArgs false
set_option maxRecDepth 100000
/-- A slice of elements of k cells that is only read. -/
structure Sv (w : World) (k : Nat) (P : List Value → Prop) (a : Option Addr) (n : Nat) (L : List (List Value)) : Prop where
  len : L.length = n
  sz : n ≤ 9223372036854775807
  at_ : ∀ i, (h : i < L.length) → ∃ g o, a = some ⟨g, o, none⟩ ∧ g < w.heap.size ∧ L[i].length = k ∧ P L[i] ∧ w.rangeAt g (o + i * k) L[i]
theorem range_bel {w w' : World} {g o : Nat} {L : List Value} (h : w.rangeAt g o L) (hg : w'.heap[g]? = w.heap[g]?) : w'.rangeAt g o L := fun j u hu => (World.cell?_of_block hg).trans (h j u hu)
theorem Sv.bel {w w' : World} {k : Nat} {P : List Value → Prop} {a : Option Addr} {n : Nat} {L : List (List Value)} (h : Sv w k P a n L) (hb : Below w.heap.size w w') : Sv w' k P a n L :=
  ⟨h.len, h.sz, fun i hi => by
    obtain ⟨g, o, e, hg, h1, h2, h3⟩ := h.at_ i hi
    exact ⟨g, o, e, Nat.lt_of_lt_of_le hg hb.size, h1, h2, range_bel h3 (hb.block g hg)⟩⟩
theorem open_rows {H : Type} {enc : TypeId × Value → H} {w : World} {sl el : TypeId} {k : Nat} {P : List Value → Prop} (hun : Try.prog.underlying sl = some (.slice el)) (hk : Try.prog.cellsOf el = k) (k0 : 0 < k)
    (hP : ∀ fuel cs x, DataW.trod enc Try.prog w 0 (fun _ => true) true fuel el cs = some x → cs.length = k → P cs)
    {fuel : Nat} {a0 : Option Addr} {n0 c0 : Nat} {x : DataW H × List MemPlace} (h : DataW.trod enc Try.prog w 0 (fun _ => true) true fuel sl [.slice a0 n0 c0] = some x) : ∃ L, Sv w k P a0 n0 L := by
  rcases Go.Deep.open_slice hun h with ⟨hcs, _⟩ | ⟨ad, len, cap, m, n, D, Pl, hcs, _, hl, hm, hmm, _, hall⟩
  · simp at hcs
    obtain ⟨rfl, rfl, rfl⟩ := hcs
    exact ⟨[], rfl, by omega, fun i hi => absurd hi (Nat.not_lt_zero _)⟩
  · simp at hcs
    obtain ⟨rfl, rfl, rfl⟩ := hcs
    rw [if_pos rfl] at hmm
    subst hmm
    have each : ∀ i, i < m → ∃ q : List Value, q.length = k ∧ P q ∧ ∀ j u, q[j]? = some u → w.cell? ((ad.add (i * k)).add j) = some u := by
      intro i hi
      obtain ⟨cs', g1, g2⟩ := hall i hi
      rw [hk] at g1
      obtain ⟨_, hlen, hcell⟩ := World.cells?_some g1
      refine ⟨cs', hlen, hP _ _ _ g2 hlen, fun j u hu => ?_⟩
      have hj : j < cs'.length := (List.getElem?_eq_some_iff.1 hu).1
      rw [hcell j (by omega)]
      exact hu
    haveI : Inhabited (List Value) := ⟨[]⟩
    obtain ⟨q, hq⟩ := Go.Deep.choose_lt each
    obtain ⟨b, off, spot⟩ := ad
    refine ⟨(List.range n0).map q, by simp, by have : n0 ≤ m := hl; have := hm; unfold maxLen at this; omega, fun i hi => ?_⟩
    have hi' : i < n0 := by simpa using hi
    have hlm : n0 ≤ m := hl
    obtain ⟨h1, h2, hc⟩ := hq i (by omega)
    obtain ⟨u0, hu0⟩ : ∃ u, (q i)[0]? = some u := ⟨(q i)[0]'(by omega), List.getElem?_eq_getElem _⟩
    have hsp : spot = none := by
      obtain ⟨e1, _, e3⟩ := hq 0 (by omega)
      have := e3 0 _ (List.getElem?_eq_getElem (by omega))
      simpa [Addr.add] using World.cell?_spot this
    subst hsp
    have hget : ((List.range n0).map q)[i] = q i := by simp
    rw [hget]
    refine ⟨b, off, rfl, ?_, h1, h2, fun j u hu => ?_⟩
    · have := hc 0 _ hu0
      rw [Addr.add_mid, Addr.add_mid] at this
      rcases Nat.lt_or_ge b w.heap.size with h' | h'
      · exact h'
      · simp [World.cell?, Array.getElem?_eq_none h'] at this
    · have := hc j u hu
      rw [Addr.add_mid, Addr.add_mid] at this
      exact this
/-- .. and its capacity. -/
theorem open_cap {H : Type} {enc : TypeId × Value → H} {w : World} {sl el : TypeId} (hun : Try.prog.underlying sl = some (.slice el)) {fuel : Nat} {a0 : Option Addr} {n0 c0 : Nat} {x : DataW H × List MemPlace} (h : DataW.trod enc Try.prog w 0 (fun _ => true) true fuel sl [.slice a0 n0 c0] = some x) : n0 ≤ c0 ∧ c0 < 9223372036854775808 := by
  rcases Go.Deep.open_slice hun h with ⟨hcs, _⟩ | ⟨ad, len, cap, m, n, D, Pl, hcs, _, hl, hm, _⟩
  · simp at hcs
    omega
  · simp at hcs
    obtain ⟨rfl, rfl, rfl⟩ := hcs
    unfold maxLen at hm
    omega
end Go.Proofs.Ytkcpclmkbmeigab.Gm
