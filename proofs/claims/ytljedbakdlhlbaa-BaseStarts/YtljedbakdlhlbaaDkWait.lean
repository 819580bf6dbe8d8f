/- The disk's Waiting: the sectors that wait, rising. -/
import Derived.Test.YtljedbakdlhlbaaDkOps
import Derived.Test.YtljedbakdlhlbaaShelf
import Derived.Sort.OwnSortedInts
import Derived.Shelf.Slices.In.SortNone
import Derived.Sort.KeysCollected
namespace Go.Proofs.Ytljedbakdlhlbaa
open Go.RowKit Go.Maps Go.ChangeMaps Go.Sort
set_option linter.unusedVariables false
set_option linter.unusedSimpArgs false
set_option maxRecDepth 100000

variable {w w' : World} {db lb mb m : Nat} {S : Dk}

/-- The sectors that wait, rising. -/
def Dk.waitL (S : Dk) : List Nat := (List.range S.n).filter (fun i => (S.wait i).isSome)
theorem waitL_mem {S : Dk} (hS : S.Ok) (i : Nat) : i ∈ S.waitL ↔ (S.wait i).isSome = true := by
  simp only [Dk.waitL, List.mem_filter, List.mem_range]
  refine ⟨fun h => h.2, fun h => ⟨?_, h⟩⟩
  obtain ⟨c, hc⟩ := Option.isSome_iff_exists.1 h
  exact (hS.wait i c hc).1
theorem waitL_sorted (S : Dk) : S.waitL.Pairwise (· < ·) := List.pairwise_lt_range.filter _
theorem waitL_length (S : Dk) : S.waitL.length ≤ S.n := by
  have := List.length_filter_le (fun i => (S.wait i).isSome) (List.range S.n)
  simpa [Dk.waitL] using this
theorem sort_eq (ss L : List Nat) (hp : ss.Perm L) (hL : L.Pairwise (· < ·)) : (ss.map (fun x : Nat => (x : Int))).mergeSort (fun x y => decide (x ≤ y)) = L.map (fun x : Nat => (x : Int)) := by
  have tr : ∀ a b c : Int, decide (a ≤ b) = true → decide (b ≤ c) = true → decide (a ≤ c) = true := fun a b c h1 h2 => by simp only [decide_eq_true_eq] at *; omega
  have to : ∀ a b : Int, (decide (a ≤ b) || decide (b ≤ a)) = true := fun a b => by simp only [Bool.or_eq_true, decide_eq_true_eq]; omega
  refine List.Perm.eq_of_pairwise (le := fun a b : Int => decide (a ≤ b) = true) (fun a b _ _ h1 h2 => ?_) (List.pairwise_mergeSort tr to _) ?_ ((List.mergeSort_perm _ _).trans (hp.map _))
  · simp only [decide_eq_true_eq] at h1 h2; omega
  · refine List.pairwise_map.2 (hL.imp fun h => ?_)
    simp only [decide_eq_true_eq]; omega
/-- No sector twice; a sector is on the list just where it waits and is no longer to come. -/
def Coll (S : Dk) (left : Lit → Bool) (ss : List Nat) : Prop := ss.Nodup ∧ ∀ i : Nat, i ∈ ss ↔ ((S.wait i).isSome = true ∧ left (.int .i64 (i : Int)) = false)
theorem Coll.start {D : DataW Unit} (hv : MapV D S.wait) : Coll S (Maps.has D) [] := ⟨List.nodup_nil, fun i => by rw [hv.has]; cases (S.wait i).isSome <;> simp⟩
theorem Coll.step {left : Lit → Bool} {ss : List Nat} (h : Coll S left ss) {i : Nat} (hi : (S.wait i).isSome = true) (hl : left (.int .i64 (i : Int)) = true) : Coll S (fun z => left z && !z.sameKey (.int .i64 (i : Int))) (ss ++ [i]) := by
  have hnew : i ∉ ss := fun hx => by have := ((h.2 i).1 hx).2; rw [hl] at this; cases this
  refine ⟨List.nodup_append.2 ⟨h.1, by simp, fun a ha b hb => by simp at hb; subst hb; exact fun e => hnew (e ▸ ha)⟩, fun j => ?_⟩
  by_cases hj : j = i
  · subst hj; simp [hi, Lit.sameKey]
  · have : ¬ ((j : Int) = (i : Int)) := by omega
    simp [h.2 j, hj, Lit.sameKey, this]
theorem Coll.perm {left : Lit → Bool} {ss : List Nat} (h : Coll S left ss) (hS : S.Ok) (hl : ∀ kl, left kl = false) : ss.Perm S.waitL := by
  refine (List.perm_ext_iff_of_nodup h.1 ((waitL_sorted S).imp (fun h => by omega))).2 fun i => ?_
  rw [h.2 i, hl, waitL_mem hS]; simp
set_option maxHeartbeats 2000000 in
theorem Waiting_any (w : World) (h : DkIs w db lb mb m S) (hS : S.Ok) (hm : m ≤ 1000000) : Calls Try.prog 12 #[.pointer (some ⟨db, 0, none⟩)] w fun e w' =>
    ∃ (a : Option Addr) (g cap : Nat), e = .returned (.slice a S.waitL.length cap) ∧ (a = none ∧ S.waitL = [] ∨ a = some ⟨g, 0, none⟩) ∧ w.heap.size ≤ g ∧ (∀ k (hk : k < S.waitL.length), w'.cell? ⟨g, k, none⟩ = some (.int .i64 ((S.waitL[k] : Nat) : Int))) ∧ Below w.heap.size w w' := by
  obtain ⟨i0, hi, hz0, hz1, hz2⟩ := info_parts (show (Try.prog.info? 3).map (fun i => (i.zero, i.size, i.bytes)) = some (some (.int .i64 0), 1, 8) by kernel_rfl)
  have hc1 := h.c1
  have H : Hid _ := h
  obtain ⟨D, hown, hv⟩ := h.map
  have hbl := hown.lt
  have hn2 := hS.n2
  have hn1 := hS.n1
  clear h
  go_enter Try.func12, Try.ntmps12
  go_wp2_with (first
    | (go_at_call 26; refine (isMade_any _ H.out hn1).mono ?_; rintro e w' ⟨rfl, rfl⟩)
    | (at_range; refine wpList_range_own _ rfl _ 50 rfl 3 65 law3 Try.underlying50 _ mb m _ rfl hown ?_; intro w0 hrg0 hg0 hs0))
  go_frame
  go_loopw [3] (fun v wr => ∃ (left : Lit → Bool) (cnt : Nat) (ss : List Nat), wr.ranges Try.prog 3 secR mb w'.heap.size m D left cnt ∧ ss.length + cnt ≤ m ∧ Hid (Coll S left ss) ∧
      wr.ownsRow w'.heap.size 3 1 v ss.length (ss.map (fun x : Nat => Value.int .i64 (x : Int))) ∧ Below w'.heap.size w' wr)
    (fun _ wr => wr.rangeLeft mb w'.heap.size)
  case atStart =>
    exact ⟨_, _, [], hrg0, by simpa using hown.size_le, Coll.start hv, ⟨rfl, .inl ⟨rfl, rfl⟩⟩, (Below.refl _ _).grown hg0 (Nat.le_refl _) (fun j hj => by cases hj)⟩
  case round =>
    obtain ⟨left, cnt, ss, hrg, hcm, hC, hrow, hnx⟩ := hrel
    have hss : ss.length ≤ 1000000 := by omega
    go_wp2_with (first
      | (at_next; refine wpList_next_ranges _ rfl _ rfl 3 law3 secR (Value.int .i64) Value.agg (fun key kl hk => by obtain ⟨x, hx, _⟩ := Maps.keyOf_int_inv Try.underlying3 hk; exact ⟨x, hx⟩) (fun v y hv => secR_agg hv) mb w'.heap.size m _ _ _ rfl hrg ?_ ?_))
    · intro hc0 hl0
      have hp := hC.out.perm hS hl0
      have hlen := hp.length_eq
      rcases hrow.2 with ⟨rfl, hz⟩ | ⟨g, cap, cur, rfl, hbase, hb, h1, h2, h3, h4⟩
      · have hnil : S.waitL = [] := List.eq_nil_of_length_eq_zero (by omega)
        go_wp2_with (go_at_call 27; refine (Any.slices_Sort_int_none Try.lays189 none 0 _).mono ?_; rintro e w1 ⟨rfl, hw1⟩)
        go_ret
        subst hw1
        exact ⟨none, w'.heap.size, 0, by rw [hnil]; rfl, Or.inl ⟨rfl, hnil⟩, Nat.le_refl _, fun k hk => by rw [hnil] at hk; simp at hk, hnx⟩
      · have hlc : ((ss.map (fun x : Nat => (x : Int)))).length = ss.length := by simp
        have hmm : (ss.map (fun x : Nat => (x : Int))).map (Value.int .i64) = ss.map (fun x : Nat => Value.int .i64 (x : Int)) := by simp
        have hH : Holds (Value.int .i64) wr g 0 (ss.map (fun x : Nat => (x : Int))).toArray := holds_of_blockI hb (by rw [hlc, hmm]; simpa using h4)
        have hgl : g < wr.heap.size := (Array.getElem?_eq_some_iff.1 hb).1
        have hc := Try.slices_Sort_int g 0 cap (ss.map (fun x : Nat => (x : Int))) wr hH hgl (by rw [hlc]; omega)
        rw [hlc, sort_eq ss S.waitL hp (waitL_sorted S)] at hc
        have HC : Hid (Calls Try.prog 27 #[.slice (some ⟨g, 0, none⟩) ss.length cap] wr fun e w' => e = .returned (.tuple #[]) ∧ ∃ n os, w' = grow (putRow (Value.int .i64) (Sort.ahead wr n) g 0 (S.waitL.map (fun x : Nat => (x : Int))).toArray) os) := hc
        have HL : Hid _ := hlen
        clear hc hlen hlc hmm
        go_wp2_with (go_at_call 27; refine HC.out.mono ?_; rintro e w1 ⟨rfl, nn, os, rfl⟩)
        go_ret
        have hlen := HL.out
        have hlc : ((ss.map (fun x : Nat => (x : Int)))).length = ss.length := by simp
        refine ⟨_, g, cap, by rw [← hlen]; rfl, Or.inr rfl, hbase, fun k hk => ?_, hnx.grown (grownBy_sortedI _) hnx.size (fun j hj => by cases hj; exact hbase)⟩
        have hr := ownsRow_sortedI (n := nn) (os := os) (ts := S.waitL.map (fun x : Nat => (x : Int))) (ss := ss.map (fun x : Nat => (x : Int))) (by simp [hlen]) hbase hb (by rw [hlc]; exact h1) h2 h3
        have := hr.cellAt k (by simp [hlen]; exact hk)
        rw [this]
        simp [hk]
    · intro x c kl yd yp w2 cnt2 hkey hlk hv2 hat hrg2 hlt hg2 hs2 hen
      obtain ⟨x', ex, rfl, _⟩ := Maps.keyOf_int_inv Try.underlying3 hkey
      cases ex
      obtain ⟨i, hix⟩ := hv.keys _ (has_true_of_atKey hat)
      have hxi : x = (i : Int) := by simpa using hix
      subst hxi
      have hwi : (S.wait i).isSome = true := by rw [← hv.has]; exact has_true_of_atKey hat
      have hrow2 := hrow.kept hg2 (Or.inr (row_ne_iter hrow hrg).symm)
      clear hs2
      go_wp2_with (first
        | (at_builtin; refine wpList_append_own _ rfl _ _ 33 rfl w'.heap.size 3 i0 (.int .i64 0) 1 8 Try.underlying33 hi hz0 hz1 hz2 rfl (by decide) _ _ _ rfl (hrow2.alloc _) ⟨w2.heap.size, 0, none⟩ 1 1 [.int .i64 (i : Int)] rfl rfl (cell_one_new _ _ _) (by simp [Value.oneCell']) (by unfold maxLen at *; omega) (by omega) (by have := hnx.size; have := hg2.size; simp; omega) ?_; intro v' w3 hown' hg3 hnil3; go_frame))
      have hrg3 := (hrg2.alloc _).kept hg3 (row_ne_low hrow2 hbl) (row_ne_iter hrow2 hrg2)
      go_roundw
      case rel =>
        refine ⟨_, cnt2, ss ++ [i], hrg3, by simp; omega, hC.out.step hwi hlk, by simpa using hown', ?_⟩
        exact ((hnx.grown hg2 hnx.size (fun j hj => by cases hj; exact Nat.le_refl _)).alloc (by have := hnx.size; have := hg2.size; omega) _).grown hg3 (by have := hnx.size; have := hg2.size; simp; omega) (fun j hj => (hrow2.lt j hj).1)
      case measure => rw [hrg3.left_eq, hrg.left_eq]; exact hlt
end Go.Proofs.Ytljedbakdlhlbaa
