/- The store in memory, and its small calls: New, Pages, Gen, refusal, sector, laid. -/
import Derived.Test.YtdgnfglghiecpaaDkCalm
import Derived.Test.YtdgnfglghiecpaaPkWrA
import Derived.Test.YtdgnfglghiecpaaPkMath
namespace Go.Proofs.Ytdgnfglghiecpaa
open Go.RowKit Go.Maps Go.ChangeMaps
set_option linter.unusedVariables false
set_option linter.unusedSimpArgs false
set_option maxRecDepth 100000

variable {w w' : World} {db lb mb m sb : Nat} {S : Dk} {base pages gen : Nat}

/-- A store lies whole in block sb. -/
structure StIs (w : World) (sb db base pages gen : Nat) : Prop where
  blk : w.heap[sb]? = some (.cells #[.pointer (some ⟨db, 0, none⟩), .int .i64 (base : Int), .int .i64 (pages : Int), .int .i64 (gen : Int)] 65)
theorem StIs.c0 (h : StIs w sb db base pages gen) : w.cell? ⟨sb, 0, none⟩ = some (.pointer (some ⟨db, 0, none⟩)) := Joins.cell_of_block h.blk 0
theorem StIs.c1 (h : StIs w sb db base pages gen) : w.cell? ⟨sb, 1, none⟩ = some (.int .i64 (base : Int)) := Joins.cell_of_block h.blk 1
theorem StIs.c2 (h : StIs w sb db base pages gen) : w.cell? ⟨sb, 2, none⟩ = some (.int .i64 (pages : Int)) := Joins.cell_of_block h.blk 2
theorem StIs.c3 (h : StIs w sb db base pages gen) : w.cell? ⟨sb, 3, none⟩ = some (.int .i64 (gen : Int)) := Joins.cell_of_block h.blk 3
theorem StIs.lt (h : StIs w sb db base pages gen) : sb < w.heap.size := by
  rcases Nat.lt_or_ge sb w.heap.size with h' | h'
  · exact h'
  · have := h.blk; simp [Array.getElem?_eq_none h'] at this
theorem StIs.below (h : StIs w sb db base pages gen) (hb : Below w.heap.size w w') : StIs w' sb db base pages gen := ⟨(hb.block _ h.lt).trans h.blk⟩
theorem StIs.off {B : Nat → Prop} (h : StIs w sb db base pages gen) (ho : Off B w w') (hn : ¬ B sb) : StIs w' sb db base pages gen := ⟨(ho.block _ h.lt hn).trans h.blk⟩
theorem StIs.drew (h : StIs w sb db base pages gen) : StIs w.drew sb db base pages gen := ⟨h.blk⟩

theorem Pages_nil (w : World) : Calls Try.prog 12 #[.pointer none] w fun e w' => e = .returned (.int .i64 0) ∧ w' = w := by
  go_enter Try.func12, Try.ntmps12
  go_wp2
  go_ret
  exact ⟨rfl, rfl⟩
theorem Gen_nil (w : World) : Calls Try.prog 13 #[.pointer none] w fun e w' => e = .returned (.int .i64 0) ∧ w' = w := by
  go_enter Try.func13, Try.ntmps13
  go_wp2
  go_ret
  exact ⟨rfl, rfl⟩
theorem Pages_any (w : World) (h : StIs w sb db base pages gen) : Calls Try.prog 12 #[.pointer (some ⟨sb, 0, none⟩)] w fun e w' => e = .returned (.int .i64 (pages : Int)) ∧ w' = w := by
  have hc := h.c2
  clear h
  go_enter Try.func12, Try.ntmps12
  go_wp2
  go_ret
  exact ⟨rfl, rfl⟩
theorem Gen_any (w : World) (h : StIs w sb db base pages gen) : Calls Try.prog 13 #[.pointer (some ⟨sb, 0, none⟩)] w fun e w' => e = .returned (.int .i64 (gen : Int)) ∧ w' = w := by
  have hc := h.c3
  clear h
  go_enter Try.func13, Try.ntmps13
  go_wp2
  go_ret
  exact ⟨rfl, rfl⟩
theorem strefusal_nil (i : Int) (w : World) : Calls Try.prog 29 #[.pointer none, .int .i64 i] w fun e w' => e = .returned (.int .i64 11) ∧ w' = w := by
  go_enter Try.func29, Try.ntmps29
  go_wp2
  go_ret
  exact ⟨rfl, rfl⟩
/-- How a store refuses a page. -/
def stRef (pages : Nat) (i : Int) : Int := if i < 0 ∨ (pages : Int) ≤ i then 6 else 0
theorem strefusal_any (w : World) (h : StIs w sb db base pages gen) (i : Int) : Calls Try.prog 29 #[.pointer (some ⟨sb, 0, none⟩), .int .i64 i] w fun e w' => e = .returned (.int .i64 (stRef pages i)) ∧ w' = w := by
  have hc := h.c2
  clear h
  by_cases h1 : i < 0
  · go_enter Try.func29, Try.ntmps29
    go_wp2
    go_ret
    exact ⟨by simp [stRef, h1], rfl⟩
  · by_cases h2 : (pages : Int) ≤ i
    · go_enter Try.func29, Try.ntmps29
      go_wp2
      go_ret
      exact ⟨by simp [stRef, h2], rfl⟩
    · go_enter Try.func29, Try.ntmps29
      go_wp2
      go_ret
      exact ⟨by simp [stRef, h1, h2], rfl⟩
theorem sector_any (w : World) (h : StIs w sb db base pages gen) (i j : Nat) (hb : base + 4 * i + j ≤ 100000) : Calls Try.prog 31 #[.pointer (some ⟨sb, 0, none⟩), .int .i64 (i : Int), .int .i64 (j : Int)] w fun e w' => e = .returned (.int .i64 ((base + 4 * i + j : Nat) : Int)) ∧ w' = w := by
  have hc := h.c1
  clear h
  have e1 : ((base + 4 * i + j : Nat) : Int) = (base : Int) + (i : Int) * 4 + (j : Int) := by omega
  rw [e1]
  have b1 : (base : Int) ≤ 100000 := by omega
  have b2 : (i : Int) * 4 ≤ 100000 := by omega
  have b3 : (j : Int) ≤ 100000 := by omega
  have b4 : (base : Int) + (i : Int) * 4 ≤ 100000 := by omega
  have b5 : (base : Int) + (i : Int) * 4 + (j : Int) ≤ 100000 := by omega
  go_enter Try.func31, Try.ntmps31
  go_wp2
  go_ret
  exact ⟨rfl, rfl⟩

/-! ### A mark's bytes -/
def hd (g l : Nat) : ByteArray := Pk.beS g 2 ++ Pk.beS l 6
theorem hd_size (g l : Nat) : (hd g l).size = 8 := by rw [hd, ByteArray.size_append, Pk.beS_size, Pk.beS_size]
def laidV (g : Nat) (l : Int) : ByteArray × Int := if l < 0 ∨ 281474976710656 ≤ l then (⟨#[]⟩, 6) else (hd g l.toNat, 0)
theorem wr_new (w : World) : Pk.WrIs (w.alloc (.cells #[.pointer none, .int .i64 0, .int .i64 0] 84)) w.heap.size ⟨#[]⟩ 0 :=
  ⟨none, [], (MapKept.heap_alloc w _).1, rfl, rfl⟩
theorem lay_gen {g : Nat} (hg : g ≤ 65535) : Pk.wrLay ⟨#[]⟩ 0 (Pk.putV ⟨#[]⟩ (g : Int) 2).1 (Pk.putV ⟨#[]⟩ (g : Int) 2).2 = (Pk.beS g 2, 0) := by
  have e : Pk.putV ⟨#[]⟩ (g : Int) 2 = (⟨#[]⟩ ++ Pk.beS g 2, 0) := by
    rw [Pk.putV_fits (by omega) (by rw [Pk.limI_2]; omega)]; rfl
  rw [e]
  simp only [Pk.wrLay]
  rw [if_neg (by simp), if_neg (by simp)]
  refine Prod.ext ?_ rfl
  apply ByteArray.ext; simp [ByteArray.data_append]
theorem lay_lsn (g : Nat) (l : Int) : Pk.wrLay (Pk.beS g 2) 0 (Pk.putV ⟨#[]⟩ l 6).1 (Pk.putV ⟨#[]⟩ l 6).2 = laidV g l := by
  by_cases h : l < 0 ∨ 281474976710656 ≤ l
  · rw [Pk.putV_range (by omega) (by rw [Pk.limI_6]; exact h)]
    simp [Pk.wrLay, laidV, h]
  · rw [Pk.putV_fits (by omega) (by rw [Pk.limI_6]; exact h)]
    simp only [Pk.wrLay, laidV]
    rw [if_neg (by simp), if_neg (by simp), if_neg h]
    refine Prod.ext ?_ rfl
    apply ByteArray.ext; simp [ByteArray.data_append, hd]
theorem laidV_size (g : Nat) (l : Int) : (laidV g l).1.size ≤ 8 := by
  unfold laidV; split
  · exact Nat.zero_le _
  · rw [hd_size]; exact Nat.le_refl _
theorem All_both (b : Nat) (all : ByteArray) (e : Int) (w : World) (h : Pk.WrIs w b all e) (hsz : all.size ≤ 140737488351232) (he : e ≠ 0 → all = ⟨#[]⟩) :
    Calls Try.prog 41 #[.pointer (some ⟨b, 0, none⟩)] w fun r w' => r = .returned (.tuple #[.string all, .int .i64 e]) ∧ Below w.heap.size w w' := by
  by_cases h0 : e = 0
  · subst h0; exact Pk.All_any b all w h hsz
  · rw [he h0]; exact Pk.All_err b all e w h h0
def stepW (A : ByteArray × Int) (n k : Int) : ByteArray × Int := Pk.wrLay A.1 A.2 (Pk.putV ⟨#[]⟩ n k).1 (Pk.putV ⟨#[]⟩ n k).2
structure WS (w : World) (a b : Nat) (g l : Int) (A : ByteArray × Int) (j : Nat) : Prop where
  wr : Pk.WrIs w b A.1 A.2
  sz : A.1.size ≤ j
  lt : a < w.heap.size
  mrk : w.heap[a]? = some (.cells #[.int .i64 g, .int .i64 l] 68)
theorem WS.k1 {w : World} {a b : Nat} {g l : Int} {A : ByteArray × Int} {j : Nat} (h : WS w a b g l A j) : w.cell? ⟨a, 1, none⟩ = some (.int .i64 l) := Joins.cell_of_block h.mrk 1
theorem stepW_size (A : ByteArray × Int) (n k : Int) : (stepW A n k).1.size ≤ A.1.size + 6 := by
  have := (Pk.putV_size n k).1
  unfold stepW Pk.wrLay
  split
  · exact Nat.le_add_right _ _
  · split
    · exact Nat.zero_le _
    · simp only [ByteArray.size_append]; omega
theorem stepW_laid {g : Nat} (hg : g ≤ 65535) (l : Int) : stepW (stepW (⟨#[]⟩, 0) (g : Int) 2) l 6 = laidV g l := by
  unfold stepW
  dsimp only
  rw [lay_gen hg]
  exact lay_lsn g l
end Go.Proofs.Ytdgnfglghiecpaa
