/- The disk's small calls: of a disk that New gave, and of one that nobody made. -/
import Derived.Test.YtljedbakdlhlbaaDkMem
namespace Go.Proofs.Ytljedbakdlhlbaa
open Go.RowKit Go.Maps Go.ChangeMaps
set_option linter.unusedVariables false
set_option linter.unusedSimpArgs false
set_option maxRecDepth 100000

variable {w w' : World} {db lb mb m : Nat} {S : Dk}
theorem DkIs.lt (h : DkIs w db lb mb m S) : db < w.heap.size := by
  rcases Nat.lt_or_ge db w.heap.size with h' | h'
  · exact h'
  · have := h.blk; simp [Array.getElem?_eq_none h'] at this
theorem DkIs.c (h : DkIs w db lb mb m S) (i : Nat) : w.cell? ⟨db, i, none⟩ = (S.cells lb mb)[i]? := Joins.cell_of_block h.blk i
theorem DkIs.c0 (h : DkIs w db lb mb m S) : w.cell? ⟨db, 0, none⟩ = some (.slice (some ⟨lb, 0, none⟩) S.n S.n) := h.c 0
theorem DkIs.c1 (h : DkIs w db lb mb m S) : w.cell? ⟨db, 1, none⟩ = some (.map (some mb)) := h.c 1
theorem DkIs.c2 (h : DkIs w db lb mb m S) : w.cell? ⟨db, 2, none⟩ = some (.bool S.up) := h.c 2
theorem DkIs.c3 (h : DkIs w db lb mb m S) : w.cell? ⟨db, 3, none⟩ = some (.bool S.set) := h.c 3
theorem DkIs.c4 (h : DkIs w db lb mb m S) : w.cell? ⟨db, 4, none⟩ = some (.int .i64 S.left) := h.c 4
theorem DkIs.c5 (h : DkIs w db lb mb m S) : w.cell? ⟨db, 5, none⟩ = some (.int .u64 S.keep) := h.c 5
theorem DkIs.c6 (h : DkIs w db lb mb m S) : w.cell? ⟨db, 6, none⟩ = some (.int .i64 S.acts) := h.c 6
theorem DkIs.c7 (h : DkIs w db lb mb m S) : w.cell? ⟨db, 7, none⟩ = some (.int .i64 S.downs) := h.c 7
theorem DkIs.f (h : DkIs w db lb mb m S) (i : Nat) : w.frozen? ⟨db, i, none⟩ = false := Joins.unfrozen_of_block h.blk i
theorem DkIs.mdb (h : DkIs w db lb mb m S) : mb ≠ db := fun e => by
  obtain ⟨D, ⟨es, cl, h1, _⟩, _⟩ := h.map
  rw [e, h.blk] at h1; cases h1
theorem DkIs.mlb (h : DkIs w db lb mb m S) (hn : 1 ≤ S.n) : mb ≠ lb := fun e => by
  obtain ⟨D, ⟨es, cl, h1, _⟩, _⟩ := h.map
  have := (h.row.there 0 (by omega) 0 (by omega)).1
  rw [e] at h1
  simp [World.cell?, h1] at this
theorem DkIs.keep (h : DkIs w db lb mb m S) (h1 : w'.heap[db]? = w.heap[db]?) (h2 : w'.heap[lb]? = w.heap[lb]?) (h3 : w'.heap[mb]? = w.heap[mb]?) (hs : w.heap.size ≤ w'.heap.size) : DkIs w' db lb mb m S :=
  ⟨h1.trans h.blk, h.row.of_block h2 hs, h.map.of_block h3, h.ne⟩
theorem DkIs.off {B : Nat → Prop} (h : DkIs w db lb mb m S) (ho : Off B w w') (h1 : ¬ B db) (h2 : ¬ B lb) (h3 : ¬ B mb) : DkIs w' db lb mb m S :=
  h.keep (ho.block _ h.lt h1) (ho.block _ h.row.lt h2) (ho.block _ h.map.lt h3) ho.size
theorem DkIs.below (h : DkIs w db lb mb m S) (ho : Below w.heap.size w w') : DkIs w' db lb mb m S :=
  h.keep (ho.block _ h.lt) (ho.block _ h.row.lt) (ho.block _ h.map.lt) ho.size
theorem DkIs.drew (h : DkIs w db lb mb m S) : DkIs w.drew db lb mb m S := h.keep rfl rfl rfl (Nat.le_refl _)
theorem DkIs.mono (h : DkIs w db lb mb m S) {m' : Nat} (hm : m ≤ m') : DkIs w db lb mb m' S := ⟨h.blk, h.row, h.map.mono hm, h.ne⟩
theorem DkIs.setC (h : DkIs w db lb mb m S) (i : Nat) (v : Value) (S' : Dk) (hc : (S.cells lb mb).setIfInBounds i v = S'.cells lb mb) (hn : S'.n = S.n) (hs : S'.sure = S.sure) (hw : S'.wait = S.wait) : DkIs (w.setCell ⟨db, i, none⟩ v) db lb mb m S' := by
  have hz : (w.setCell ⟨db, i, none⟩ v).heap.size = w.heap.size := by simp [go_sem]
  refine ⟨by rw [Joins.block_setCell h.blk, hc], ?_, ?_, h.ne⟩
  · rw [hn, hs]; exact h.row.of_block (Below.heap_setCell w _ v lb h.ne.symm) (by rw [hz]; exact Nat.le_refl _)
  · rw [hw]; exact h.map.of_block (Below.heap_setCell w _ v mb h.mdb)

theorem DkIs.turned (h : DkIs w db lb mb m S) (hn : 1 ≤ S.n) (ht : w.mapTurned w' mb) {f : Nat → Option ByteArray} {m' : Nat} (hm : MapIs w' mb m' f) : DkIs w' db lb mb m' { S with wait := f } :=
  ⟨(ht.grown.block db h.lt (fun e => h.mdb (by cases e; rfl))).trans h.blk, h.row.of_block (ht.grown.block lb h.row.lt (fun e => h.mlb hn (by cases e; rfl))) ht.grown.size, hm, h.ne⟩
theorem DkIs.rowput (h : DkIs w db lb mb m S) (hn : 1 ≤ S.n) {i : Nat} (hi : i < S.n) {c : ByteArray} (hc : c.size = 64) : DkIs (w.setCells lb (i * 64) (secL c)) db lb mb m { S with sure := upd S.sure i c } := by
  obtain ⟨h1, h2, h3, h4, h5⟩ := setCells_facts lb (secL c) (i * 64) w
  exact ⟨(h5 db h.ne).trans h.blk, h.row.put hi hc, h.map.of_block (h5 mb (h.mlb hn)), h.ne⟩
/-- A pointer at no disk, or at one that New did not give. -/
def NotMade (w : World) (p : Option Addr) : Prop := p = none ∨ ∃ b, p = some ⟨b, 0, none⟩ ∧ w.cell? ⟨b, 0, none⟩ = some (.slice none 0 0)

theorem isMade_not (p : Option Addr) (w : World) (h : NotMade w p) : Calls Try.prog 26 #[.pointer p] w fun e w' => e = .returned (.bool false) ∧ w' = w := by
  rcases h with rfl | ⟨b, rfl, hc⟩
  · go_enter Try.func26, Try.ntmps26
    go_wp2
    go_ret
    exact ⟨rfl, rfl⟩
  · go_enter Try.func26, Try.ntmps26
    go_wp2
    go_ret
    exact ⟨rfl, rfl⟩
theorem isMade_any (w : World) (h : DkIs w db lb mb m S) (hn : 1 ≤ S.n) : Calls Try.prog 26 #[.pointer (some ⟨db, 0, none⟩)] w fun e w' => e = .returned (.bool true) ∧ w' = w := by
  have hc := h.c0
  have hn0 : decide (0 < S.n) = true := by simp; omega
  go_enter Try.func26, Try.ntmps26
  go_wp2
  go_ret
  exact ⟨by simp [hn0], rfl⟩
theorem refusal_not (p : Option Addr) (w : World) (h : NotMade w p) : Calls Try.prog 30 #[.pointer p] w fun e w' => e = .returned (.int .i64 11) ∧ w' = w := by
  have H : Hid _ := h
  clear h
  go_enter Try.func30, Try.ntmps30
  go_wp2_with (go_at_call 26; refine (isMade_not _ _ H.out).mono ?_; rintro e w' ⟨rfl, rfl⟩)
  go_ret
  exact ⟨rfl, rfl⟩
/-- How a disk refuses. -/
def refI (up : Bool) : Int := if up then 0 else 9
theorem refusal_any (w : World) (h : DkIs w db lb mb m S) (hn : 1 ≤ S.n) : Calls Try.prog 30 #[.pointer (some ⟨db, 0, none⟩)] w fun e w' => e = .returned (.int .i64 (refI S.up)) ∧ w' = w := by
  have hc := h.c2
  have H : Hid _ := h
  clear h
  go_enter Try.func30, Try.ntmps30
  cases hu : S.up
  · rw [hu] at hc
    go_wp2_with (go_at_call 26; refine (isMade_any _ H.out hn).mono ?_; rintro e w' ⟨rfl, rfl⟩)
    go_ret
    exact ⟨rfl, rfl⟩
  · rw [hu] at hc
    go_wp2_with (go_at_call 26; refine (isMade_any _ H.out hn).mono ?_; rintro e w' ⟨rfl, rfl⟩)
    go_ret
    exact ⟨rfl, rfl⟩
theorem refusalAt_not (p : Option Addr) (i : Int) (w : World) (h : NotMade w p) : Calls Try.prog 28 #[.pointer p, .int .i64 i] w fun e w' => e = .returned (.int .i64 11) ∧ w' = w := by
  have H : Hid _ := h
  clear h
  go_enter Try.func28, Try.ntmps28
  go_wp2_with (go_at_call 30; refine (refusal_not _ _ H.out).mono ?_; rintro e w' ⟨rfl, rfl⟩)
  go_ret
  exact ⟨rfl, rfl⟩
/-- How a disk refuses a sector. -/
def refAt (up : Bool) (n : Nat) (i : Int) : Int := if up then (if i < 0 ∨ (n : Int) ≤ i then 6 else 0) else 9
theorem refusalAt_any (w : World) (h : DkIs w db lb mb m S) (hn : 1 ≤ S.n) (i : Int) : Calls Try.prog 28 #[.pointer (some ⟨db, 0, none⟩), .int .i64 i] w fun e w' => e = .returned (.int .i64 (refAt S.up S.n i)) ∧ w' = w := by
  have hc := h.c0
  have H : Hid _ := h
  have C : Hid (∀ w, DkIs w db lb mb m S → Calls Try.prog 30 #[.pointer (some ⟨db, 0, none⟩)] w fun e w' => e = .returned (.int .i64 (refI S.up)) ∧ w' = w) := fun w h => refusal_any w h hn
  clear h
  cases hu : S.up
  · rw [hu] at C
    have e0 : refI false = 9 := rfl
    rw [e0] at C
    go_enter Try.func28, Try.ntmps28
    go_wp2_with (go_at_call 30; refine (C.out _ H.out).mono ?_; rintro e w' ⟨rfl, rfl⟩)
    go_ret
    exact ⟨rfl, rfl⟩
  · rw [hu] at C
    have e0 : refI true = 0 := rfl
    rw [e0] at C
    by_cases h1 : i < 0
    · go_enter Try.func28, Try.ntmps28
      go_wp2_with (go_at_call 30; refine (C.out _ H.out).mono ?_; rintro e w' ⟨rfl, rfl⟩)
      go_ret
      exact ⟨by simp [refAt, h1], rfl⟩
    · by_cases h2 : (S.n : Int) ≤ i
      · go_enter Try.func28, Try.ntmps28
        go_wp2_with (go_at_call 30; refine (C.out _ H.out).mono ?_; rintro e w' ⟨rfl, rfl⟩)
        go_ret
        exact ⟨by simp [refAt, h1, h2], rfl⟩
      · go_enter Try.func28, Try.ntmps28
        go_wp2_with (go_at_call 30; refine (C.out _ H.out).mono ?_; rintro e w' ⟨rfl, rfl⟩)
        go_ret
        exact ⟨by simp [refAt, h1, h2], rfl⟩
theorem Read_not (p : Option Addr) (i : Int) (w : World) (h : NotMade w p) : Calls Try.prog 14 #[.pointer p, .int .i64 i] w fun e w' => e = .returned (.tuple #[.string ⟨#[]⟩, .int .i64 11]) ∧ w' = w := by
  have H : Hid _ := h
  clear h
  go_enter Try.func14, Try.ntmps14
  go_wp2_with (go_at_call 28; refine (refusalAt_not _ _ _ H.out).mono ?_; rintro e w' ⟨rfl, rfl⟩)
  go_ret2
  exact ⟨rfl, rfl⟩
theorem Write_not (p : Option Addr) (i : Int) (s : ByteArray) (w : World) (h : NotMade w p) : Calls Try.prog 15 #[.pointer p, .int .i64 i, .string s] w fun e w' => e = .returned (.int .i64 11) ∧ w' = w := by
  have H : Hid _ := h
  clear h
  go_enter Try.func15, Try.ntmps15
  go_wp2_with (go_at_call 28; refine (refusalAt_not _ _ _ H.out).mono ?_; rintro e w' ⟨rfl, rfl⟩)
  go_ret
  exact ⟨rfl, rfl⟩
theorem Sync_not (p : Option Addr)  (w : World) (h : NotMade w p) : Calls Try.prog 21 #[.pointer p] w fun e w' => e = .returned (.int .i64 11) ∧ w' = w := by
  have H : Hid _ := h
  clear h
  go_enter Try.func21, Try.ntmps21
  go_wp2_with (go_at_call 30; refine (refusal_not _ _ H.out).mono ?_; rintro e w' ⟨rfl, rfl⟩)
  go_ret
  exact ⟨rfl, rfl⟩
theorem Arm_not (p : Option Addr) (i k : Int) (w : World) (h : NotMade w p) : Calls Try.prog 16 #[.pointer p, .int .i64 i, .int .u64 k] w fun e w' => e = .returned (.int .i64 11) ∧ w' = w := by
  have H : Hid _ := h
  clear h
  go_enter Try.func16, Try.ntmps16
  go_wp2_with (go_at_call 30; refine (refusal_not _ _ H.out).mono ?_; rintro e w' ⟨rfl, rfl⟩)
  go_ret
  exact ⟨rfl, rfl⟩
theorem Start_not (p : Option Addr)  (w : World) (h : NotMade w p) : Calls Try.prog 17 #[.pointer p] w fun e w' => e = .returned (.int .i64 11) ∧ w' = w := by
  have H : Hid _ := h
  clear h
  go_enter Try.func17, Try.ntmps17
  go_wp2_with (go_at_call 26; refine (isMade_not _ _ H.out).mono ?_; rintro e w' ⟨rfl, rfl⟩)
  go_ret
  exact ⟨rfl, rfl⟩
theorem Waiting_not (p : Option Addr)  (w : World) (h : NotMade w p) : Calls Try.prog 12 #[.pointer p] w fun e w' => e = .returned (.slice none 0 0) ∧ w' = w := by
  have H : Hid _ := h
  clear h
  go_enter Try.func12, Try.ntmps12
  go_wp2_with (go_at_call 26; refine (isMade_not _ _ H.out).mono ?_; rintro e w' ⟨rfl, rfl⟩)
  go_ret
  exact ⟨rfl, rfl⟩
end Go.Proofs.Ytljedbakdlhlbaa
