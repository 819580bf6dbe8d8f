/- Rows of strings: sorted, compacted. -/
import Derived.Test.YtkcpclmkbmeigabFdJ
import Derived.Test.YtkcpclmkbmeigabFdE
import Derived.Test.YtkcpclmkbmeigabShelfP
import Derived.Sort.OwnSorted
namespace Go.Proofs.Ytkcpclmkbmeigab.Fd
open Go.RowKit Gm Go.Maps Go.Sort Go.Shelf
set_option linter.unusedVariables false
set_option linter.unusedSimpArgs false
set_option maxRecDepth 100000
def sK (l : List ByteArray) : List (List Value) := l.map fun k => [.string k]
def bl (l : List ByteArray) : List (List UInt8) := l.map fun k => k.data.toList
def bB (x : List UInt8) : ByteArray := ⟨x.toArray⟩
theorem bB_bl (k : ByteArray) : bB k.data.toList = k := ba_eq rfl
def sortB (l : List ByteArray) : List ByteArray := ((bl l).mergeSort fun x y => decide (x ≤ y)).map bB
theorem bl_sortB (l : List ByteArray) : bl (sortB l) = (bl l).mergeSort fun x y => decide (x ≤ y) := by
  unfold sortB
  generalize ((bl l).mergeSort fun x y => decide (x ≤ y)) = m
  unfold bl
  rw [List.map_map]
  conv => rhs; rw [← List.map_id m]
  exact List.map_congr_left fun x _ => rfl
theorem sK_flat (l : List ByteArray) : (sK l).flatten = (bl l).map encStr := by
  unfold sK bl
  induction l with
  | nil => rfl
  | cons a l ih => simp only [List.map_cons, List.flatten_cons, ih, encS]; rfl
theorem sK_len (l : List ByteArray) : (sK l).length = l.length := List.length_map ..
theorem bl_len (l : List ByteArray) : (bl l).length = l.length := List.length_map ..
theorem sortB_len (l : List ByteArray) : (sortB l).length = l.length := by unfold sortB; rw [List.length_map, List.length_mergeSort, bl_len]
theorem sK_ks (l : List ByteArray) : ∀ c ∈ sK l, c.length = 1 := by
  intro c hc
  obtain ⟨x, _, rfl⟩ := List.mem_map.1 hc
  rfl
theorem sortB_mem {l : List ByteArray} {k : ByteArray} : k ∈ sortB l ↔ k ∈ l := by
  unfold sortB bl
  rw [List.mem_map]
  constructor
  · rintro ⟨x, hx, rfl⟩
    rw [List.mem_mergeSort, List.mem_map] at hx
    obtain ⟨y, hy, rfl⟩ := hx
    rw [bB_bl]
    exact hy
  · intro h
    exact ⟨k.data.toList, by rw [List.mem_mergeSort, List.mem_map]; exact ⟨k, h, rfl⟩, bB_bl k⟩
/-- Of keys without doubles: the sorted ones rise. -/
theorem sortB_up {l : List ByteArray} (h : l.Nodup) : (sortB l).Pairwise blt := by
  have h1 : (bl l).Nodup := by
    unfold bl
    exact List.pairwise_map.2 (h.imp fun hne e => hne (ba_eq e))
  have h2 : ((bl l).mergeSort fun x y => decide (x ≤ y)).Pairwise fun x y => decide (x ≤ y) = true := List.pairwise_mergeSort (fun a b c h1 h2 => by simp only [decide_eq_true_eq] at *; exact List.le_trans h1 h2) (fun a b => by simp only [Bool.or_eq_true, decide_eq_true_eq]; exact List.le_total a b) _
  have h3 : ((bl l).mergeSort fun x y => decide (x ≤ y)).Nodup := (List.mergeSort_perm _ _).nodup_iff.2 h1
  unfold sortB
  rw [List.pairwise_map]
  refine (h2.and h3).imp fun {a b} hab => ?_
  obtain ⟨h4, h5⟩ := hab
  have h4 : a ≤ b := by simpa using h4
  show a < b
  rcases List.le_iff_lt_or_eq.1 h4 with h6 | h6
  · exact h6
  · exact absurd h6 h5
section
variable {w w' : World} {v : Value} {l : List ByteArray}
structure StO (w w' : World) (v : Value) (l : List ByteArray) : Prop where
  row : Row w' 9 1 v (sK l)
  gr : w.grownBy w' v.ownBlock
theorem Sort_row (h : Row w 9 1 v (sK l)) (hn : l.length ≤ 100000) : Calls Try.prog 25 #[v] w fun e w' => e = .returned (.tuple #[]) ∧ StO w w' v (sortB l) := by
  rcases h.row.2 with ⟨rfl, h0⟩ | ⟨g, cap, cur, rfl, hB, hg, h3, h4, h5, h6⟩
  · have hl : l = [] := List.eq_nil_of_length_eq_zero (by rw [sK_len] at h0; exact h0)
    subst hl
    refine (AnyM.slices_Sort_string_none Try.sortS none 0 w).mono ?_
    rintro e w' ⟨rfl, rfl⟩
    have e9 : sortB [] = [] := List.eq_nil_of_length_eq_zero (sortB_len [])
    rw [e9]
    exact ⟨rfl, h, ⟨rfl, rfl, rfl, Nat.le_refl _, fun _ _ _ => rfl⟩⟩
  · rw [sK_len] at h3 h6
    rw [sK_len, sK_flat, Nat.mul_one] at *
    have hH : Holds encStr w g 0 (bl l).toArray := holds_of_block hg (by rw [bl_len]; exact h6)
    have hc := AnyM.slices_Sort_string Try.sortS g 0 cap (bl l) w hH (lt_of hg) (by rw [bl_len]; omega)
    rw [bl_len] at hc
    refine hc.mono ?_
    rintro e w' ⟨rfl, n, os, rfl⟩
    rw [← bl_sortB]
    have hl : (bl (sortB l)).length = (bl l).length := by rw [bl_len, bl_len, sortB_len]
    have h9 := ownsRow_sorted (w := w) (n := n) (os := os) hl (Nat.zero_le g) hg (by rw [bl_len]; exact h3) h4 (by rw [h5, Nat.mul_one])
    rw [bl_len] at h9
    refine ⟨rfl, ⟨sK_ks _, ?_⟩, grownBy_sorted _⟩
    rw [sK_len, sK_flat, sortB_len]
    exact h9
theorem compact_up {l : List ByteArray} (h : l.Pairwise blt) : Lib.compact (bl l) = bl l := by
  refine Lib.compact_all _ fun j hj => ?_
  rcases Nat.eq_zero_or_pos j with h0 | h0
  · exact Lib.keeps_lt_one _ j (by omega)
  · refine Lib.keeps_pos fun e => ?_
    rw [bl_len] at hj
    have h1 := List.pairwise_iff_getElem.1 h (j - 1) j (by omega) hj (by omega)
    rw [getElem!_pos (bl l).toArray j (by simpa [bl_len] using hj), getElem!_pos (bl l).toArray (j - 1) (by simp [bl_len]; omega)] at e
    simp only [List.getElem_toArray] at e
    unfold bl at e
    rw [List.getElem_map, List.getElem_map] at e
    unfold blt at h1
    rw [e] at h1
    exact List.lt_irrefl _ h1
theorem Compact_row {a : Option Addr} {c : Nat} (h : Row w 9 1 (.slice a l.length c) (sK l)) (hn : l.length ≤ 100000) (hu : l.Pairwise blt) : Calls Try.prog 26 #[.slice a l.length c] w fun e w' => e = .returned (.slice a l.length c) ∧ StO w w' (.slice a l.length c) l := by
  rcases h.row.2 with ⟨e, h0⟩ | ⟨g, cap, cur, e, hB, hg, h3, h4, h5, h6⟩
  · injection e with e1 e2 e3
    subst e1 e3
    rw [sK_len] at h0
    rw [h0] at h ⊢
    refine (AnyG.slices_Compact_string_empty Try.compactS none 0 w).mono ?_
    rintro e w' ⟨rfl, rfl⟩
    exact ⟨rfl, h, ⟨rfl, rfl, rfl, Nat.le_refl _, fun _ _ _ => rfl⟩⟩
  · injection e with e1 e2 e3
    subst e1 e3
    rw [sK_len] at h3 h6
    rw [sK_flat, Nat.mul_one] at h6
    have hH : Holds encStr w g 0 (bl l).toArray := holds_of_block hg (by rw [bl_len]; exact h6)
    have hc := AnyG.slices_Compact_string Try.compactS g 0 c (bl l) w hH (by rw [bl_len]; omega) (by rw [bl_len]; exact h3)
    rw [compact_up hu, Nat.sub_self, List.replicate_zero, List.append_nil, bl_len] at hc
    refine hc.mono ?_
    rintro e w' ⟨rfl, n, rfl⟩
    have h9 := ownsRow_sorted (w := w) (n := n) (os := #[]) (rfl : (bl l).length = (bl l).length) (Nat.zero_le g) hg (by rw [bl_len]; exact h3) h4 (by rw [h5, Nat.mul_one])
    rw [bl_len, grow_empty] at h9
    have h8 := grownBy_sorted (w := w) (g := g) (n := n) (os := #[]) (bl l).toArray
    rw [grow_empty] at h8
    refine ⟨rfl, ⟨sK_ks _, ?_⟩, h8⟩
    rw [sK_len, sK_flat]
    exact h9
end
end Go.Proofs.Ytkcpclmkbmeigab.Fd
