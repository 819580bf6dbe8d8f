/- Spans: slices of pairs of whole numbers; how many are not above an epoch. -/
import Derived.Test.YtjlhohljkedbbabGmO
namespace Go.Proofs.Ytjlhohljkedbbab.Rq
open Go.RowKit Gm
set_option linter.unusedVariables false
set_option linter.unusedSimpArgs false
set_option maxRecDepth 100000
abbrev SpL := Int × Int
def encS (s : SpL) : List Value := [.int .i64 s.1, .int .i64 s.2]
/-- A slice that reads as pairs. -/
structure Sp (w : World) (v : Value) (L : List SpL) : Prop where
  ex : ∃ a c, v = .slice a L.length c ∧ ∀ i (hi : i < L.length), ∃ g o, a = some ⟨g, o, none⟩ ∧ g < w.heap.size ∧ w.cell? ⟨g, o + i * 2, none⟩ = some (.int .i64 L[i].1) ∧ w.cell? ⟨g, o + i * 2 + 1, none⟩ = some (.int .i64 L[i].2)
section
variable {w w' : World} {v : Value} {a : Option Addr} {n c : Nat} {L : List SpL}
theorem Sp.bel (h : Sp w v L) (hb : Below w.heap.size w w') : Sp w' v L := by
  obtain ⟨a, c, e, h⟩ := h.ex
  refine ⟨a, c, e, fun i hi => ?_⟩
  obtain ⟨g, o, ea, hg, h1, h2⟩ := h i hi
  exact ⟨g, o, ea, Nat.lt_of_lt_of_le hg hb.size, by rw [World.cell?_of_block (hb.block g hg)]; exact h1, by rw [World.cell?_of_block (hb.block g hg)]; exact h2⟩
theorem Sp.at_ (h : Sp w (.slice a n c) L) {i : Nat} (hi : i < L.length) : ∃ g o, a = some ⟨g, o, none⟩ ∧ g < w.heap.size ∧ w.cell? ⟨g, o + i * 2, none⟩ = some (.int .i64 L[i].1) ∧ w.cell? ⟨g, o + i * 2 + 1, none⟩ = some (.int .i64 L[i].2) := by
  obtain ⟨a', c', e, hh⟩ := h.ex
  cases e
  exact hh i hi
theorem Sp.of_row {t : TypeId} (h : Row w t 2 v (L.map encS)) : Sp w v L := by
  obtain ⟨a, c, e, _⟩ := h.sl
  rw [List.length_map] at e
  refine ⟨a, c, e, fun i hi => ?_⟩
  subst e
  have h2 : Row w t 2 (.slice a L.length c) (L.map encS) := h
  obtain ⟨g, ea, hg, hat⟩ := h2.at_ (i := i) (by rw [List.length_map]; exact hi)
  have hra := (hat w rfl).1
  rw [List.getElem_map] at hra
  exact ⟨g, 0, ea, hg, by have := hra 0 _ rfl; simpa using this, by have := hra 1 _ rfl; simpa using this⟩
/-- A law's argument. -/
structure PairL (cs : List Value) : Prop where
  ex : ∃ x : SpL, cs = encS x
theorem Sp.of_sv {L' : List (List Value)} (h : Sv w 2 PairL a n L') : ∃ L : List SpL, L.length = n ∧ Sp w (.slice a n c) L := by
  refine ⟨L'.map fun cs => match cs with | [.int _ x, .int _ y] => (x, y) | _ => (0, 0), by rw [List.length_map]; exact h.len, ⟨a, c, by rw [List.length_map, h.len], fun i hi => ?_⟩⟩
  rw [List.length_map] at hi
  obtain ⟨g, o, ea, hg, hk, hp, hr⟩ := h.at_ i hi
  obtain ⟨⟨x, y⟩, e⟩ := hp.ex
  rw [List.getElem_map, e]
  rw [e] at hr
  exact ⟨g, o, ea, hg, hr 0 _ rfl, hr 1 _ rfl⟩
theorem Sp.take (h : Sp w (.slice a n c) L) (k : Nat) (hk : k ≤ L.length) : Sp w (.slice a k c) (L.take k) := by
  refine ⟨a, c, by rw [List.length_take, Nat.min_eq_left hk], fun i hi => ?_⟩
  rw [List.length_take] at hi
  rw [List.getElem_take]
  exact h.at_ (by omega)
end
theorem open_pr {H : Type} {enc : TypeId × Value → H} {w : World} {t : TypeId} {n1 n2 p1 p2 : String} {x1 x2 : Nat} {b1 b2 : Bool} {fuel : Nat} {cs : List Value} {x : DataW H × List MemPlace} (hun : Try.prog.underlying t = some (.struct #[⟨n1, 3, 0, b1, p1, p2, x1⟩, ⟨n2, 3, 1, b2, p1, p2, x2⟩])) (h : DataW.trod enc Try.prog w 0 (fun _ => true) true fuel t cs = some x) (hcs : cs.length = 2) : PairL cs := by
  have h3 : Try.prog.cellsOf 3 = 1 := by kernel_rfl
  obtain ⟨xs, k, hk, hx, _, hxl, hf⟩ := DataW.trod_struct hun h
  match xs, hxl, cs, hcs with
  | [y0, y1], _, [v0, v1], _ =>
    have f0 := hf 0 _ rfl
    have f1 := hf 1 _ rfl
    simp [h3] at f0 f1
    obtain ⟨n0, i0, _, _⟩ := DataW.trod_int Try.underlying3 f0
    obtain ⟨n1, i1, _, _⟩ := DataW.trod_int Try.underlying3 f1
    simp at i0 i1
    subst i0 i1
    exact ⟨⟨n0, n1⟩, rfl⟩
/-! ### Plain -/
def upN (L : List SpL) (e : Int) : Nat := L.findIdx fun s => decide (e < s.1)
def upP (L : List SpL) (e en : Int) : Int := ((L[upN L e]?).map fun s => min s.2 en).getD en
theorem upN_le (L : List SpL) (e : Int) : upN L e ≤ L.length := List.findIdx_le_length
theorem upN_of {L : List SpL} {e : Int} {i : Nat} (hi : i < L.length) (h : e < L[i].1) (hn : ∀ j (hj : j < i), ¬ e < (L[j]'(by omega)).1) : upN L e = i :=
  (List.findIdx_eq hi).2 ⟨by simpa using h, fun j hj => by simpa using hn j hj⟩
theorem upN_no {L : List SpL} {e : Int} (hn : ∀ j (hj : j < L.length), ¬ e < L[j].1) : upN L e = L.length :=
  List.findIdx_eq_length.2 fun x hx => by
    obtain ⟨j, hj, rfl⟩ := List.getElem_of_mem hx
    simpa using hn j hj
theorem upP_at {L : List SpL} {e en : Int} {i : Nat} (hi : i < L.length) (h : upN L e = i) : upP L e en = min L[i].2 en := by
  unfold upP
  rw [h, List.getElem?_eq_getElem hi]
  rfl
theorem upP_no {L : List SpL} {e en : Int} (h : upN L e = L.length) : upP L e en = en := by
  unfold upP
  rw [h, List.getElem?_eq_none (Nat.le_refl _)]
  rfl
def partM (L : List SpL) (e en : Int) : Int × Int := if upN L e = 0 then (0, min 1 en) else ((L[upN L e - 1]?.map (·.1)).getD 0, upP L e en)
def keepM (L : List SpL) (e at_ en : Int) : Int := upP L e (min at_ en)
end Go.Proofs.Ytjlhohljkedbbab.Rq
