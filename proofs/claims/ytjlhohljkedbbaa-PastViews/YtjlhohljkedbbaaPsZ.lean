/- slices.Backward over a row of ints. -/
import Derived.Test.YtjlhohljkedbbaaPsY
import Derived.RangeFuncWrites
import Derived.RangeFuncNested
import Derived.RangeFuncBound
import Derived.RangeFuncCalls
import Derived.RangeFuncLeaves
import Derived.Shelf.Abstract
import Derived.Shelf.RegionOpen
import Derived.OwnWalkIn
import Derived.TacticsInMore
import Derived.LoopNIn
import Derived.LoopIn
namespace Go.Proofs.Ytjlhohljkedbbaa.Pa
open Go.RowKit Gm Go.Maps Go.Shelf
set_option linter.unusedVariables false
set_option linter.unusedSimpArgs false
set_option maxRecDepth 100000
attribute [local go_sem] Oper.semAt_some
/-- What comes: a place, and a number of the list. -/
abbrev BwT (ts : List Int) := { x : Int × Int // x.2 ∈ ts }
def bwL {ts : List Int} (pre : List (BwT ts)) : List Int := pre.map fun x => x.1.2
/-- All blocks below n but b lie as they lay. -/
structure KpB (n b : Nat) (W W' : World) : Prop where
  size : W.heap.size ≤ W'.heap.size
  blk : ∀ k, k < n → k ≠ b → W'.heap[k]? = W.heap[k]?
theorem KpB.refl (n b : Nat) (W : World) : KpB n b W W := ⟨Nat.le_refl _, fun _ _ _ => rfl⟩
theorem KpB.trans {n b : Nat} {A B C : World} (h : KpB n b A B) (k : KpB n b B C) : KpB n b A C := ⟨Nat.le_trans h.size k.size, fun i hi hn => (k.blk i hi hn).trans (h.blk i hi hn)⟩
theorem KpB.put {n b : Nat} (W : World) (l : Nat) (o : Obj) (hl : n ≤ l) : KpB n b W (W.putObj l o) := ⟨by simp, fun k hk _ => World.putObj_heap_other (by omega)⟩
theorem bwL_snoc {ts : List Int} (pre : List (BwT ts)) (x : BwT ts) : bwL (pre ++ [x]) = bwL pre ++ [x.1.2] := by simp [bwL]
section
variable {ts : List Int} {n₀ ba Bs g c m : Nat} {a : Option Addr}
set_option maxHeartbeats 2000000 in
theorem bwd1_in (F : Fence) (n : Nat) (hF : F.fn 33) (hro : F.round = none) (hn : 1 ≤ n) (l : Nat) (hm : ts.length = m) (hm2 : m ≤ 100000) (hB : Bs < n₀ ∧ Bs ≠ ba) (J Jx : List (BwT ts) → World → Prop)
    (hY : ∀ (pre : List (BwT ts)) (x : BwT ts) W, J pre W → pre.length < m → YieldAt F (n - 1) Try.prog l #[.int .i64 x.1.1, .int .i64 x.1.2] W fun e W' =>
      (e = .returned (.bool true) ∧ J (pre ++ [x]) W' ∧ KpB n₀ ba W W') ∨ (e = .returned (.bool false) ∧ Jx (pre ++ [x]) W'))
    (W : World) (hBs : W.cell? ⟨Bs, 0, none⟩ = some (.slice a m c)) (hc : 0 < m → a = some ⟨g, 0, none⟩ ∧ g < n₀ ∧ g ≠ ba ∧ ∀ j (hj : j < ts.length), W.cell? ⟨g, j, none⟩ = some (.int .i64 ts[j])) (h0 : J [] W) :
    CallsIn F n Try.prog 33 #[.func (.yield l) #[] #[], .pointer (some ⟨Bs, 0, none⟩)] W fun e W' => (∃ v, e = .returned v) ∧
      ((∃ ys, bwL ys = ts.reverse ∧ J ys W') ∨ (∃ pre, True ∧ Jx pre W')) := by
  refine callsIn_of_wp Try.func33 rfl hF ?_ hro
  simp only [Try.ntmps33, List.size_toArray, List.length_cons, List.length_nil, Nat.reduceAdd, Nat.reduceSub, Array.replicate_succ, Array.replicate_zero, List.push_toArray, List.append_toArray, List.nil_append, List.cons_append]
  have hw1 : IntKind.i64.wrap ((m : Int) - 1) = (m : Int) - 1 := by rw [IntKind.wrap_i64]; omega
  gi_wp2
  gi_loopw [3] (fun i wr => ∃ (k : Nat) (pre : List (BwT ts)), k ≤ m ∧ i = .int .i64 ((m : Int) - 1 - k) ∧ pre.length = k ∧ bwL pre = (ts.drop (m - k)).reverse ∧ J pre wr ∧ KpB n₀ ba W wr)
    (fun i _ => (intOf i + 1).toNat)
  case atStart => exact ⟨0, [], Nat.zero_le _, by simp, rfl, by simp [bwL, List.drop_of_length_le (Nat.le_of_eq hm)], h0, KpB.refl _ _ _⟩
  case round =>
    obtain ⟨k, pre, hk, rfl, hl, hp, hJs, hnx⟩ := hrel
    have hbx : wr.cell? ⟨Bs, 0, none⟩ = some (.slice a m c) := (World.cell?_of_block (hnx.blk Bs hB.1 hB.2)).trans hBs
    by_cases hlt : k < m
    · have hit : m - 1 - k < ts.length := by omega
      obtain ⟨ea, hg1, hg2, hcc⟩ := hc (by omega)
      have hcx : wr.cell? ⟨g, m - 1 - k, none⟩ = some (.int .i64 ts[m - 1 - k]) := (World.cell?_of_block (hnx.blk g hg1 hg2)).trans (hcc _ hit)
      clear hcc
      subst ea
      obtain ⟨fn, tmps, assign, body, hy, hR⟩ := hY pre ⟨((m : Int) - 1 - k, ts[m - 1 - k]), List.getElem_mem hit⟩ wr hJs (by omega)
      have hdrop : bwL (pre ++ [⟨((m : Int) - 1 - k, ts[m - 1 - k]), List.getElem_mem hit⟩]) = (ts.drop (m - (k + 1))).reverse := by
        rw [bwL_snoc, hp]
        have : ts.drop (m - (k + 1)) = ts[m - 1 - k] :: ts.drop (m - k) := by
          have e1 : m - (k + 1) = m - 1 - k := by omega
          have e2 : m - k = m - 1 - k + 1 := by omega
          rw [e1, e2]
          exact List.drop_eq_getElem_cons hit
        rw [this, List.reverse_cons]
      have hi0 : 0 ≤ (m : Int) - 1 - k := by omega
      have hi1 : (m : Int) - 1 - k < m := by omega
      have hin : ((m : Int) - 1 - k).toNat = m - 1 - k := by omega
      have hw2 : IntKind.i64.wrap ((m : Int) - 1 - k - 1) = (m : Int) - 1 - k - 1 := by rw [IntKind.wrap_i64]; omega
      dsimp only at hy
      clear hp hc hY
      gi_wp2
      refine hR.mono ?_
      rintro e W3 (⟨rfl, hJ3, hk3⟩ | ⟨rfl, hJx3⟩)
      · gi_wp2
        go_roundw
        case rel => exact ⟨k + 1, _, by omega, by congr 1; omega, by rw [List.length_append, hl]; rfl, hdrop, hJ3, hnx.trans hk3⟩
        case measure => simp [intOf]; omega
      · gi_wp2
        refine bodyPost_ret (results_none rfl _ _ _) rfl ?_
        exact ⟨⟨_, rfl⟩, .inr ⟨_, trivial, hJx3⟩⟩
    · have hk0 : k = m := by omega
      subst hk0
      have hi0 : ¬ 0 ≤ (k : Int) - 1 - k := by omega
      gi_wp2
      go_end0
      exact ⟨⟨_, rfl⟩, .inl ⟨pre, by rw [hp]; simp, hJs⟩⟩
set_option maxHeartbeats 1000000 in
theorem bwd_in (F : Fence) (n : Nat) (h : F.fn 26) (hro : F.round = none) (a : Option Addr) (m c : Nat) (w : World) :
    CallsIn F n Try.prog 26 #[.slice a m c] w fun e w' => e = .returned (.func (.func 33) #[] #[.pointer (some ⟨w.heap.size, 0, none⟩)]) ∧ w' = w.alloc (.cells #[.slice a m c] 67) := by
  refine callsIn_of_wp Try.func26 rfl h ?_ hro
  simp only [Try.ntmps26, List.size_toArray, List.length_cons, List.length_nil, Nat.reduceAdd, Nat.reduceSub, Array.replicate_succ, Array.replicate_zero, List.push_toArray, List.append_toArray, List.nil_append, List.cons_append]
  gi_wp2
  go_ret
  exact ⟨rfl, rfl⟩
theorem bwd_stops (F : Fence) (n : Nat) (hF : F.fn 33) (hro : F.round = none) (hn : 1 ≤ n) (hm : ts.length = m) (hm2 : m ≤ 100000) (hB : Bs < n₀ ∧ Bs ≠ ba) {w : World} (hw : n₀ ≤ w.heap.size)
    (hBs : w.cell? ⟨Bs, 0, none⟩ = some (.slice a m c)) (hc : 0 < m → a = some ⟨g, 0, none⟩ ∧ g < n₀ ∧ g ≠ ba ∧ ∀ j (hj : j < ts.length), w.cell? ⟨g, j, none⟩ = some (.int .i64 ts[j])) :
    SeqStopsK F n Try.prog 33 #[.pointer (some ⟨Bs, 0, none⟩)] (fun x : BwT ts => #[Value.int .i64 x.1.1, .int .i64 x.1.2]) (KpB n₀ ba) (fun ys => bwL ys = ts.reverse) (fun _ => True) m w := fun l J Jx W hW _ _ hY h0 =>
  bwd1_in (g := g) F n hF hro hn l hm hm2 hB J Jx hY W ((hW.cell (p := ⟨Bs, 0, none⟩) (Nat.lt_of_lt_of_le hB.1 hw)).trans hBs) (fun h => by
    obtain ⟨h1, h2, h3, h4⟩ := hc h
    exact ⟨h1, h2, h3, fun j hj => (hW.cell (p := ⟨g, j, none⟩) (Nat.lt_of_lt_of_le h2 hw)).trans (h4 j hj)⟩) h0
end
end Go.Proofs.Ytjlhohljkedbbaa.Pa
