/- The law's own disk in memory: as the same disk; its off and act. -/
import Derived.Test.YtoafoopenmppgaaMostW
namespace Go.Proofs.Ytoafoopenmppgaa
open Go.RowKit Go.Maps Go.ChangeMaps Go.Sort
set_option linter.unusedVariables false
set_option linter.unusedSimpArgs false
set_option maxRecDepth 100000
variable {w w' : World} {pb rb cap : Nat} {pl pk : Int} {S : Dk}

/-- The rows of the law's disk. -/
structure PRow (w : World) (rb n : Nat) (a b : Nat → ByteArray) (c : Nat → Bool) : Prop where
  lt : rb < w.heap.size
  c0 : ∀ i, i < n → w.cell? ⟨rb, i * 3, none⟩ = some (.string (a i))
  c1 : ∀ i, i < n → w.cell? ⟨rb, i * 3 + 1, none⟩ = some (.string (b i))
  c2 : ∀ i, i < n → w.cell? ⟨rb, i * 3 + 2, none⟩ = some (.bool (c i))
  f : ∀ j, w.frozen? ⟨rb, j, none⟩ = false
variable {n : Nat} {a b : Nat → ByteArray} {c : Nat → Bool}
theorem PRow.of_block (h : PRow w rb n a b c) (hb : w'.heap[rb]? = w.heap[rb]?) (hs : w.heap.size ≤ w'.heap.size) : PRow w' rb n a b c :=
  ⟨Nat.lt_of_lt_of_le h.lt hs, fun i hi => (World.cell?_of_block (by exact hb)).trans (h.c0 i hi), fun i hi => (World.cell?_of_block (by exact hb)).trans (h.c1 i hi), fun i hi => (World.cell?_of_block (by exact hb)).trans (h.c2 i hi), fun j => (World.frozen?_of_block (by exact hb)).trans (h.f j)⟩
theorem PRow.congr (h : PRow w rb n a b c) {a' b' : Nat → ByteArray} {c' : Nat → Bool} (ha : ∀ i, i < n → a i = a' i) (hb : ∀ i, i < n → b i = b' i) (hc : ∀ i, i < n → c i = c' i) : PRow w rb n a' b' c' :=
  ⟨h.lt, fun i hi => by rw [← ha i hi]; exact h.c0 i hi, fun i hi => by rw [← hb i hi]; exact h.c1 i hi, fun i hi => by rw [← hc i hi]; exact h.c2 i hi, h.f⟩
theorem PRow.drew (h : PRow w rb n a b c) : PRow w.drew rb n a b c := h.of_block rfl (Nat.le_refl _)
theorem setCell_ne {w : World} {g i j : Nat} (v : Value) (h : i ≠ j) : (w.setCell ⟨g, i, none⟩ v).cell? ⟨g, j, none⟩ = w.cell? ⟨g, j, none⟩ := World.cell?_setCell_other _ _ _ _ (fun e => h (by cases e; rfl))
theorem setCell_size (w : World) (p : Addr) (v : Value) : (w.setCell p v).heap.size = w.heap.size := by simp [go_sem]
theorem PRow.set0 (h : PRow w rb n a b c) {i : Nat} (hi : i < n) (s : ByteArray) : PRow (w.setCell ⟨rb, i * 3, none⟩ (.string s)) rb n (upd a i s) b c := by
  refine ⟨by rw [setCell_size]; exact h.lt, fun j hj => ?_, fun j hj => ?_, fun j hj => ?_, fun j => by rw [World.frozen?_setCell]; exact h.f j⟩
  · by_cases e : j = i
    · subst e; rw [upd_same]; exact World.cell?_setCell_same _ _ _ (h.c0 j hj)
    · rw [upd_other _ _ e, setCell_ne _ (by omega)]; exact h.c0 j hj
  · rw [setCell_ne _ (by omega)]; exact h.c1 j hj
  · rw [setCell_ne _ (by omega)]; exact h.c2 j hj
theorem PRow.set1 (h : PRow w rb n a b c) {i : Nat} (hi : i < n) (s : ByteArray) : PRow (w.setCell ⟨rb, i * 3 + 1, none⟩ (.string s)) rb n a (upd b i s) c := by
  refine ⟨by rw [setCell_size]; exact h.lt, fun j hj => ?_, fun j hj => ?_, fun j hj => ?_, fun j => by rw [World.frozen?_setCell]; exact h.f j⟩
  · rw [setCell_ne _ (by omega)]; exact h.c0 j hj
  · by_cases e : j = i
    · subst e; rw [upd_same]; exact World.cell?_setCell_same _ _ _ (h.c1 j hj)
    · rw [upd_other _ _ e, setCell_ne _ (by omega)]; exact h.c1 j hj
  · rw [setCell_ne _ (by omega)]; exact h.c2 j hj
theorem PRow.set2 (h : PRow w rb n a b c) {i : Nat} (hi : i < n) (s : Bool) : PRow (w.setCell ⟨rb, i * 3 + 2, none⟩ (.bool s)) rb n a b (upd c i s) := by
  refine ⟨by rw [setCell_size]; exact h.lt, fun j hj => ?_, fun j hj => ?_, fun j hj => ?_, fun j => by rw [World.frozen?_setCell]; exact h.f j⟩
  · rw [setCell_ne _ (by omega)]; exact h.c0 j hj
  · rw [setCell_ne _ (by omega)]; exact h.c1 j hj
  · by_cases e : j = i
    · subst e; rw [upd_same]; exact World.cell?_setCell_same _ _ _ (h.c2 j hj)
    · rw [upd_other _ _ e, setCell_ne _ (by omega)]; exact h.c2 j hj

def plCells (n rb cap : Nat) (down armed : Bool) (pl pk acts downs : Int) : Array Value :=
  #[.slice (some ⟨rb, 0, none⟩) n cap, .bool down, .bool armed, .int .i64 pl, .int .u64 pk, .int .i64 acts, .int .i64 downs]
/-- The law's disk, as the disk S. -/
structure PlIs (w : World) (pb rb cap : Nat) (pl pk : Int) (S : Dk) : Prop where
  blk : w.heap[pb]? = some (.cells (plCells S.n rb cap (!S.up) S.set pl pk S.acts S.downs) 32)
  arm : S.set = true → pl = S.left ∧ pk = S.keep
  row : PRow w rb S.n S.sure S.now (fun i => (S.wait i).isSome)
  ne : pb ≠ rb
theorem PlIs.lt (h : PlIs w pb rb cap pl pk S) : pb < w.heap.size := by
  rcases Nat.lt_or_ge pb w.heap.size with h' | h'
  · exact h'
  · have := h.blk; simp [Array.getElem?_eq_none h'] at this
theorem PlIs.keep (h : PlIs w pb rb cap pl pk S) (h1 : w'.heap[pb]? = w.heap[pb]?) (h2 : w'.heap[rb]? = w.heap[rb]?) (hs : w.heap.size ≤ w'.heap.size) : PlIs w' pb rb cap pl pk S :=
  ⟨h1.trans h.blk, h.arm, h.row.of_block h2 hs, h.ne⟩
theorem PlIs.off {B : Nat → Prop} (h : PlIs w pb rb cap pl pk S) (ho : Off B w w') (h1 : ¬ B pb) (h2 : ¬ B rb) : PlIs w' pb rb cap pl pk S :=
  h.keep (ho.block _ h.lt h1) (ho.block _ h.row.lt h2) ho.size
theorem PlIs.below (h : PlIs w pb rb cap pl pk S) (ho : Below w.heap.size w w') : PlIs w' pb rb cap pl pk S :=
  h.keep (ho.block _ h.lt) (ho.block _ h.row.lt) ho.size
theorem PlIs.drew (h : PlIs w pb rb cap pl pk S) : PlIs w.drew pb rb cap pl pk S := h.keep rfl rfl (Nat.le_refl _)
def two (pb rb : Nat) : Nat → Prop := fun k => k = pb ∨ k = rb
theorem two_a (pb rb : Nat) : two pb rb pb := Or.inl rfl
theorem two_b (pb rb : Nat) : two pb rb rb := Or.inr rfl

/-- A law's disk on the way: its struct, its rows. -/
structure PW (w : World) (pb rb n cap : Nat) (down armed : Bool) (pl pk acts downs : Int) (a b : Nat → ByteArray) (c : Nat → Bool) : Prop where
  blk : w.heap[pb]? = some (.cells (plCells n rb cap down armed pl pk acts downs) 32)
  row : PRow w rb n a b c
  ne : pb ≠ rb
variable {down armed : Bool} {acts downs : Int}
theorem PW.cc (h : PW w pb rb n cap down armed pl pk acts downs a b c) (i : Nat) : w.cell? ⟨pb, i, none⟩ = (plCells n rb cap down armed pl pk acts downs)[i]? := Joins.cell_of_block h.blk i
theorem PW.d0 (h : PW w pb rb n cap down armed pl pk acts downs a b c) : w.cell? ⟨pb, 0, none⟩ = some (.slice (some ⟨rb, 0, none⟩) n cap) := h.cc 0
theorem PW.d1 (h : PW w pb rb n cap down armed pl pk acts downs a b c) : w.cell? ⟨pb, 1, none⟩ = some (.bool down) := h.cc 1
theorem PW.d2 (h : PW w pb rb n cap down armed pl pk acts downs a b c) : w.cell? ⟨pb, 2, none⟩ = some (.bool armed) := h.cc 2
theorem PW.d3 (h : PW w pb rb n cap down armed pl pk acts downs a b c) : w.cell? ⟨pb, 3, none⟩ = some (.int .i64 pl) := h.cc 3
theorem PW.d4 (h : PW w pb rb n cap down armed pl pk acts downs a b c) : w.cell? ⟨pb, 4, none⟩ = some (.int .u64 pk) := h.cc 4
theorem PW.d5 (h : PW w pb rb n cap down armed pl pk acts downs a b c) : w.cell? ⟨pb, 5, none⟩ = some (.int .i64 acts) := h.cc 5
theorem PW.d6 (h : PW w pb rb n cap down armed pl pk acts downs a b c) : w.cell? ⟨pb, 6, none⟩ = some (.int .i64 downs) := h.cc 6
theorem PW.df (h : PW w pb rb n cap down armed pl pk acts downs a b c) (i : Nat) : w.frozen? ⟨pb, i, none⟩ = false := Joins.unfrozen_of_block h.blk i
theorem PW.setP (h : PW w pb rb n cap down armed pl pk acts downs a b c) (i : Nat) (v : Value) {down' armed' : Bool} {pl' pk' acts' downs' : Int} (hc : (plCells n rb cap down armed pl pk acts downs).setIfInBounds i v = plCells n rb cap down' armed' pl' pk' acts' downs') :
    PW (w.setCell ⟨pb, i, none⟩ v) pb rb n cap down' armed' pl' pk' acts' downs' a b c :=
  ⟨by rw [Joins.block_setCell h.blk, hc], h.row.of_block (Below.heap_setCell w _ v rb h.ne.symm) (by rw [setCell_size]; exact Nat.le_refl _), h.ne⟩
theorem PW.setR (h : PW w pb rb n cap down armed pl pk acts downs a b c) (i : Nat) (v : Value) {a' b' : Nat → ByteArray} {c' : Nat → Bool} (hr : PRow (w.setCell ⟨rb, i, none⟩ v) rb n a' b' c') :
    PW (w.setCell ⟨rb, i, none⟩ v) pb rb n cap down armed pl pk acts downs a' b' c' :=
  ⟨(Below.heap_setCell w _ v pb h.ne).trans h.blk, hr, h.ne⟩
theorem PW.drew (h : PW w pb rb n cap down armed pl pk acts downs a b c) : PW w.drew pb rb n cap down armed pl pk acts downs a b c := ⟨h.blk, h.row.drew, h.ne⟩
theorem PW.congr (h : PW w pb rb n cap down armed pl pk acts downs a b c) {a' b' : Nat → ByteArray} {c' : Nat → Bool} (ha : ∀ i, i < n → a i = a' i) (hb : ∀ i, i < n → b i = b' i) (hc : ∀ i, i < n → c i = c' i) : PW w pb rb n cap down armed pl pk acts downs a' b' c' := ⟨h.blk, h.row.congr ha hb hc, h.ne⟩
theorem PlIs.pw (h : PlIs w pb rb cap pl pk S) : PW w pb rb S.n cap (!S.up) S.set pl pk S.acts S.downs S.sure S.now (fun i => (S.wait i).isSome) := ⟨h.blk, h.row, h.ne⟩

/-! ### off -/
def offA (S : Dk) (x : Int) (i j : Nat) : ByteArray := if j < i then lossF S.sure S.wait x j else S.sure j
def offB (S : Dk) (x : Int) (i j : Nat) : ByteArray := if j < i then lossF S.sure S.wait x j else S.now j
def offC (S : Dk) (i j : Nat) : Bool := if j < i then false else (S.wait j).isSome
theorem rank_none {f : Nat → Option ByteArray} {i : Nat} (h : f i = none) : rank f (i + 1) = rank f i := by
  simp [rank, List.range_succ, List.filter_append, h]
theorem rank_some {f : Nat → Option ByteArray} {i : Nat} {c : ByteArray} (h : f i = some c) : rank f (i + 1) = rank f i + 1 := by
  simp [rank, List.range_succ, List.filter_append, h]
theorem rank_le (f : Nat → Option ByteArray) (i : Nat) : rank f i ≤ i := by
  have := List.length_filter_le (fun j => (f j).isSome) (List.range i)
  simpa [rank] using this
theorem offA_none {x : Int} {i : Nat} (h : S.wait i = none) (j : Nat) : offA S x (i + 1) j = offA S x i j := by
  by_cases e : j = i
  · subst e; simp [offA, lossF, h]
  · have : j < i + 1 ↔ j < i := by omega
    simp [offA, this]
theorem offB_none {x : Int} {i : Nat} (h : S.wait i = none) (j : Nat) : offB S x (i + 1) j = offB S x i j := by
  by_cases e : j = i
  · subst e; simp [offB, lossF, h, Dk.now]
  · have : j < i + 1 ↔ j < i := by omega
    simp [offB, this]
theorem offC_none {i : Nat} (h : S.wait i = none) (j : Nat) : offC S (i + 1) j = offC S i j := by
  by_cases e : j = i
  · subst e; simp [offC, h]
  · have : j < i + 1 ↔ j < i := by omega
    simp [offC, this]
theorem offA_upd {x : Int} {i : Nat} (j : Nat) : offA S x (i + 1) j = upd (offA S x i) i (lossF S.sure S.wait x i) j := by
  by_cases e : j = i
  · subst e; simp [offA, upd_same]
  · have : j < i + 1 ↔ j < i := by omega
    rw [upd_other _ _ e]; simp [offA, this]
theorem offB_upd {x : Int} {i : Nat} (j : Nat) : offB S x (i + 1) j = upd (offB S x i) i (lossF S.sure S.wait x i) j := by
  by_cases e : j = i
  · subst e; simp [offB, upd_same]
  · have : j < i + 1 ↔ j < i := by omega
    rw [upd_other _ _ e]; simp [offB, this]
theorem offC_upd {i : Nat} (j : Nat) : offC S (i + 1) j = upd (offC S i) i false j := by
  by_cases e : j = i
  · subst e; simp [offC, upd_same]
  · have : j < i + 1 ↔ j < i := by omega
    rw [upd_other _ _ e]; simp [offC, this]

set_option maxHeartbeats 4000000 in
theorem off_any (w : World) (h : PlIs w pb rb cap pl pk S) (hS : S.Ok) (x : Int) (x0 : 0 ≤ x) (x1 : x ≤ 18446744073709551615) : Calls Try.prog 27 #[.pointer (some ⟨pb, 0, none⟩), .int .u64 x] w fun e w' =>
    e = .returned (.tuple #[]) ∧ PlIs w' pb rb cap pl pk (offDk S x) ∧ Off (two pb rb) w w' := by
  have hn2 := hS.n2
  have hd0 := hS.d0
  have hd1 := hS.d1
  have hpw := h.pw
  have HP : Hid _ := hpw
  clear h hpw
  go_enter Try.func27, Try.ntmps27
  go_wp2
  go_loopw [4, 5] (fun kv iv wr => ∃ (i k : Nat), kv = .int .i64 (k : Int) ∧ iv = .int .i64 (i : Int) ∧ i ≤ S.n ∧ k ≤ 8192 ∧ Hid (k = rank S.wait i) ∧ PW wr pb rb S.n cap (!S.up) S.set pl pk S.acts S.downs (offA S x i) (offB S x i) (offC S i) ∧ Off (two pb rb) w wr) (fun _ iv _ => S.n - (intOf iv).toNat)
  case atStart =>
    refine ⟨0, 0, rfl, rfl, by omega, by omega, rfl, ?_, Off.refl _ _⟩
    exact HP.out.congr (fun i _ => by simp [offA]) (fun i _ => by simp [offB]) (fun i _ => by simp [offC])
  case round =>
    obtain ⟨i, k, rfl, rfl, hi, hk, hr, hW, hoff⟩ := hrel
    have d0 := hW.d0
    have dd := hW.df
    have rf := hW.row.f
    by_cases hin : i < S.n
    · have iI : (i : Int) < (S.n : Int) := by omega
      have r0 := hW.row.c0 i hin
      have r1 := hW.row.c1 i hin
      have r2 := hW.row.c2 i hin
      have ea : offA S x i i = S.sure i := by simp [offA]
      have eb : offB S x i i = S.now i := by simp [offB]
      have ec : offC S i i = (S.wait i).isSome := by simp [offC]
      rw [ea] at r0
      rw [eb] at r1
      rw [ec] at r2
      cases hw : S.wait i with
      | none =>
        rw [hw] at r2
        simp only [Option.isSome_none] at r2
        go_wp2
        refine ⟨⟨i + 1, k, rfl, by simp, hin, hk, ?_, ?_, hoff⟩, by simp [intOf]; omega⟩
        · show k = rank S.wait (i + 1)
          rw [rank_none hw]; exact hr
        · exact hW.congr (fun j _ => (offA_none hw j).symm) (fun j _ => (offB_none hw j).symm) (fun j _ => (offC_none hw j).symm)
      | some cc =>
        rw [hw] at r2
        simp only [Option.isSome_some] at r2
        have hk' : k + 1 ≤ 8192 := by have := rank_le S.wait i; have := hr.out; omega
        obtain ⟨su, hsu⟩ : ∃ su, su = S.sure i := ⟨_, rfl⟩
        obtain ⟨nw, hnw⟩ : ∃ nw, nw = S.now i := ⟨_, rfl⟩
        rw [← hsu] at r0
        rw [← hnw] at r1
        have HSU : Hid _ := hsu
        have HNW : Hid _ := hnw
        have HR : Hid _ := hr
        clear ea eb ec hsu hnw
        go_wp2
        go_loopw [6, 7] (fun bv jv wr' => ∃ j : Nat, jv = .int .i64 (j : Int) ∧ j ≤ k % 64 ∧ bv = .int .u64 (x / 2 ^ j) ∧ wr' = wr) (fun _ jv _ => k % 64 - (intOf jv).toNat)
        case atStart => exact ⟨0, rfl, by omega, by simp, rfl⟩
        case round =>
          obtain ⟨j, rfl, hj, rfl, rfl⟩ := hrel
          have hb0 : 0 ≤ x / 2 ^ j := Int.ediv_nonneg x0 (Int.pow_nonneg (by decide))
          have hb1 : x / 2 ^ j ≤ 18446744073709551615 := by
            have := Int.ediv_le_self (2 ^ j) x0
            omega
          by_cases hjk : j < k % 64
          · have jI : (j : Int) < (k : Int) % 64 := by omega
            obtain ⟨y, hy⟩ : ∃ y, y = x / 2 ^ j := ⟨_, rfl⟩
            rw [← hy] at hb0 hb1 ⊢
            have HY : Hid _ := hy
            clear hy
            go_wp2
            refine ⟨⟨j + 1, by simp, by omega, ?_, trivial⟩, by simp [intOf]; omega⟩
            rw [HY.out, Int.pow_succ, Int.ediv_ediv_of_nonneg (Int.pow_nonneg (by decide))]
          · have jI : ¬ (j : Int) < (k : Int) % 64 := by omega
            obtain ⟨y, hy⟩ : ∃ y, y = x / 2 ^ j := ⟨_, rfl⟩
            rw [← hy] at hb0 hb1 ⊢
            have hjk2 : j = k % 64 := by omega
            have hbit : bitK x k = decide (y % 2 = 1) := by rw [hy, hjk2]; rfl
            have HBT : Hid _ := hbit
            clear hy hbit hjk2
            have hcc : nw = cc := by rw [HNW.out]; simp [Dk.now, hw]
            have HCC : Hid _ := hcc
            clear hcc
            cases hbk : bitK x k
            · have hy1 : (y % 2 == 1) = false := by
                have := HBT.out; rw [hbk] at this
                have h2 := of_decide_eq_false this.symm
                simpa using h2
              have hlf : lossF S.sure S.wait x i = su := by rw [lossF, hw]; simp only [← HR.out, hbk]; rw [HSU.out]; rfl
              have hW2 := hW.drew.setR (i * 3 + 1) (.string su) (hW.drew.row.set1 hin su)
              have k0 : wr.drew.cell? ⟨pb, 0, none⟩ = some (.slice (some ⟨rb, 0, none⟩) S.n cap) ∧ wr.drew.cell? ⟨rb, i * 3, none⟩ = some (.string su) := ⟨d0, r0⟩
              have k2 : (wr.drew.setCell ⟨rb, i * 3 + 1, none⟩ (.string su)).cell? ⟨pb, 0, none⟩ = some (.slice (some ⟨rb, 0, none⟩) S.n cap) ∧ (wr.drew.setCell ⟨rb, i * 3 + 1, none⟩ (.string su)).cell? ⟨rb, i * 3, none⟩ = some (.string su) := ⟨hW2.d0, (setCell_ne _ (by omega)).trans r0⟩
              have e2 : (wr.drew.setCell ⟨rb, i * 3 + 1, none⟩ (.string su)).cell? ⟨rb, i * 3 + 2, none⟩ = some (.bool true) := (setCell_ne _ (by omega)).trans r2
              have HK0 : Hid _ := k0
              have HK2 : Hid _ := k2
              have HE2 : Hid _ := e2
              have HW2 : Hid _ := hW2
              clear k0 k2 e2 hW2
              go_wp2
              go_region_held_law (fun w' => w'.cell? ⟨pb, 0, none⟩ = some (.slice (some ⟨rb, 0, none⟩) S.n cap) ∧ w'.cell? ⟨rb, i * 3, none⟩ = some (.string su)) (first | exact HK0.out | exact HK2.out) (fail)
              have g0 := HK2.out.1
              have g2 := HE2.out
              have gf := HW2.out.row.f
              go_wp2
              refine ⟨⟨i + 1, k + 1, by simp, by simp, hin, hk', ?_, ?_, ((hoff.drew).setCell (two_b _ _) _ _).setCell (two_b _ _) _ _⟩, by simp [intOf]; omega⟩
              · show k + 1 = rank S.wait (i + 1)
                rw [rank_some hw, HR.out]
              · refine (HW2.out.setR (i * 3 + 2) (.bool false) (HW2.out.row.set2 hin false)).congr (fun j _ => ?_) (fun j _ => by rw [offB_upd, hlf]) (fun j _ => by rw [offC_upd])
                by_cases e : j = i
                · subst e; rw [offA_upd, upd_same, hlf, HSU.out]; simp [offA]
                · rw [offA_upd, upd_other _ _ e]
            · have hy1 : (y % 2 == 1) = true := by
                have := HBT.out; rw [hbk] at this
                have h2 := of_decide_eq_true this.symm
                simpa using h2
              have hlf : lossF S.sure S.wait x i = nw := by rw [lossF, hw]; simp only [← HR.out, hbk]; rw [HCC.out]; rfl
              have hW1 := hW.drew.setR (i * 3) (.string nw) (hW.drew.row.set0 hin nw)
              have k0 : wr.drew.cell? ⟨pb, 0, none⟩ = some (.slice (some ⟨rb, 0, none⟩) S.n cap) ∧ wr.drew.cell? ⟨rb, i * 3 + 1, none⟩ = some (.string nw) := ⟨d0, r1⟩
              have k1 : (wr.drew.setCell ⟨rb, i * 3, none⟩ (.string nw)).cell? ⟨pb, 0, none⟩ = some (.slice (some ⟨rb, 0, none⟩) S.n cap) ∧ (wr.drew.setCell ⟨rb, i * 3, none⟩ (.string nw)).cell? ⟨rb, i * 3 + 1, none⟩ = some (.string nw) := ⟨hW1.d0, (setCell_ne _ (by omega)).trans r1⟩
              have k3 : (wr.drew.setCell ⟨rb, i * 3, none⟩ (.string nw)).cell? ⟨rb, i * 3, none⟩ = some (.string nw) := World.cell?_setCell_same _ _ _ r0
              have hW2 := hW1.drew.setR (i * 3 + 1) (.string nw) (hW1.drew.row.set1 hin nw)
              have k4 : ((wr.drew.setCell ⟨rb, i * 3, none⟩ (.string nw)).drew.setCell ⟨rb, i * 3 + 1, none⟩ (.string nw)).cell? ⟨pb, 0, none⟩ = some (.slice (some ⟨rb, 0, none⟩) S.n cap) ∧ ((wr.drew.setCell ⟨rb, i * 3, none⟩ (.string nw)).drew.setCell ⟨rb, i * 3 + 1, none⟩ (.string nw)).cell? ⟨rb, i * 3, none⟩ = some (.string nw) := ⟨hW2.d0, (setCell_ne _ (by omega)).trans k3⟩
              have e2 : ((wr.drew.setCell ⟨rb, i * 3, none⟩ (.string nw)).drew.setCell ⟨rb, i * 3 + 1, none⟩ (.string nw)).cell? ⟨rb, i * 3 + 2, none⟩ = some (.bool true) := (setCell_ne _ (by omega)).trans ((setCell_ne _ (by omega)).trans r2)
              have HK0 : Hid _ := k0
              have HK1 : Hid _ := k1
              have HK3 : Hid _ := k3
              have HK4 : Hid _ := k4
              have HE2 : Hid _ := e2
              have HW1 : Hid _ := hW1
              have HW2 : Hid _ := hW2
              clear k0 k1 k3 k4 e2 hW1 hW2
              go_wp2
              go_region_held_law (fun w' => w'.cell? ⟨pb, 0, none⟩ = some (.slice (some ⟨rb, 0, none⟩) S.n cap) ∧ w'.cell? ⟨rb, i * 3 + 1, none⟩ = some (.string nw)) (first | exact HK0.out | exact HK1.out) (fail)
              have gf1 := HW1.out.row.f
              have g01 := HK1.out.1
              have g11 := HK1.out.2
              have g31 := HK3.out
              go_wp2
              go_region_held_law (fun w' => w'.cell? ⟨pb, 0, none⟩ = some (.slice (some ⟨rb, 0, none⟩) S.n cap) ∧ w'.cell? ⟨rb, i * 3, none⟩ = some (.string nw)) (first | exact ⟨HK1.out.1, HK3.out⟩ | exact HK4.out) (fail)
              have g0 := HK4.out.1
              have g2 := HE2.out
              have gf := HW2.out.row.f
              go_wp2
              refine ⟨⟨i + 1, k + 1, by simp, by simp, hin, hk', ?_, ?_, ((((hoff.drew).setCell (two_b _ _) _ _).drew).setCell (two_b _ _) _ _).setCell (two_b _ _) _ _⟩, by simp [intOf]; omega⟩
              · show k + 1 = rank S.wait (i + 1)
                rw [rank_some hw, HR.out]
              · exact (HW2.out.setR (i * 3 + 2) (.bool false) (HW2.out.row.set2 hin false)).congr (fun j _ => by rw [offA_upd, hlf]) (fun j _ => by rw [offB_upd, hlf]) (fun j _ => by rw [offC_upd])
    · have hie : i = S.n := by omega
      subst hie
      have iI : ¬ ((S.n : Int) < (S.n : Int)) := by omega
      have d1 := hW.d1
      have d2 := hW.d2
      have d6 := hW.d6
      go_wp2
      go_end0
      refine ⟨rfl, ?_, ((hoff.setCell (two_a _ _) _ _).setCell (two_a _ _) _ _).setCell (two_a _ _) _ _⟩
      have hF := ((hW.setP 1 (.bool true) (down' := true) (armed' := S.set) (pl' := pl) (pk' := pk) (acts' := S.acts) (downs' := S.downs) rfl).setP 2 (.bool false) (down' := true) (armed' := false) (pl' := pl) (pk' := pk) (acts' := S.acts) (downs' := S.downs) rfl).setP 6 (.int .i64 (S.downs + 1)) (down' := true) (armed' := false) (pl' := pl) (pk' := pk) (acts' := S.acts) (downs' := S.downs + 1) rfl
      have hF2 := hF.congr (a' := lossF S.sure S.wait x) (b' := (offDk S x).now) (c' := fun _ => false) (fun j hj => by simp [offA, hj]) (fun j hj => by simp [offB, hj, Dk.now, offDk]) (fun j hj => by simp [offC, hj])
      exact ⟨hF2.blk, fun h => by simp [offDk] at h, hF2.row, hF2.ne⟩
end Go.Proofs.Ytoafoopenmppgaa
