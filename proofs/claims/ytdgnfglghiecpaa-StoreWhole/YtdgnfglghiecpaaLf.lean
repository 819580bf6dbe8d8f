/- The law's own fill and made. -/
import Derived.Test.YtdgnfglghiecpaaSx
namespace Go.Proofs.Ytdgnfglghiecpaa
open Go.RowKit Go.Maps Go.ChangeMaps
set_option linter.unusedVariables false
set_option linter.unusedSimpArgs false
set_option maxRecDepth 100000

/-- 224 bytes of one kind. -/
def fillS (x : Nat) : ByteArray := ⟨Array.replicate 224 (UInt8.ofNat x)⟩
theorem fillS_size (x : Nat) : (fillS x).size = 224 := by simp [fillS, ByteArray.size]
theorem fillS_get (x : Nat) (i : Nat) (hi : i < (fillS x).size) : (fillS x)[i] = UInt8.ofNat x := by
  show (fillS x).data[i] = _
  simp [fillS]
theorem fill_any (x : Nat) (hx : x < 256) (w : World) : Calls Try.prog 23 #[.int .u8 (x : Int)] w fun e w' => e = .returned (.string (fillS x)) ∧ Below w.heap.size w w' := by
  have hmk : ∀ w, (Instr.makeSlice 75 (.int .i64 224) (.int .i64 224)).run Try.prog w = .ok (.slice (some ⟨w.heap.size, 0, none⟩) 224 224) (w.alloc (.cells (madeCells #[.int .u8 0] 224) 5)) :=
    fun w => run_make_row' 75 5 (.int .u8 0) 1 Try.underlying75 (by kernel_rfl) rfl .i64 .i64 224 (by omega) (by omega) w
  obtain ⟨M, hM⟩ : ∃ M, M = madeCells #[Value.int .u8 0] 224 := ⟨_, rfl⟩
  have hMz : M.size = 224 := by rw [hM]; exact size_madeCells _ _
  rw [← hM] at hmk
  clear hM
  go_enter Try.func23, Try.ntmps23
  go_wp2
  go_loopw [4] (fun i wr => ∃ (j : Nat) (C : Array Value), j ≤ 224 ∧ i = .int .i64 j ∧ wr.heap[w.heap.size]? = some (.cells C 5) ∧ C.size = 224 ∧ Hid (∀ i, i < j → C[i]? = some (.int .u8 (x : Int))) ∧ Below w.heap.size w wr) (fun i _ => 224 - (intOf i).toNat)
  case atStart =>
    exact ⟨0, M, by omega, rfl, (MapKept.heap_alloc w _).1, hMz, fun i hi => absurd hi (by omega), (Below.refl _ _).alloc (Nat.le_refl _) _⟩
  case round =>
    obtain ⟨j, C, hj, rfl, hC, hz, hc, hb⟩ := hrel
    by_cases hlt : j < 224
    · obtain ⟨v, ev⟩ : ∃ v, C[j]? = some v := ⟨_, Array.getElem?_eq_getElem (by omega)⟩
      have k0 := (Joins.cell_of_block hC j).trans ev
      have hf := Joins.unfrozen_of_block hC j
      go_wp2
      go_roundw
      case rel =>
        refine ⟨j + 1, _, by omega, by go_num, Joins.block_setCell hC _, by simpa using hz, fun i hi => ?_, hb.setCell (Nat.le_refl _) _⟩
        rw [Array.getElem?_setIfInBounds]
        by_cases e : j = i
        · subst e; rw [if_pos rfl, if_pos (by omega)]
        · rw [if_neg e]; exact hc.out i (by omega)
      case measure => simp [intOf]; omega
    · obtain rfl : j = 224 := by omega
      have hcv : (convert 75 9 (.slice (some ⟨w.heap.size, 0, none⟩) 224 224)).run Try.prog wr = .ok (.string (fillS x)) wr := by
        have := Lib.run_convert_whole (P := Try.prog) wr 75 5 9 Try.underlying75 Try.underlying5 Try.underlying9 w.heap.size 0 (fillS x) (fun i hi => by
          rw [fillS_get x i hi]
          rw [Joins.cell_of_block hC, Nat.zero_add, hc.out i (by rw [fillS_size] at hi; exact hi)]
          have : (UInt8.ofNat x).toNat = x := by simp; omega
          rw [this]) 224
        rw [fillS_size] at this
        exact this
      go_wp2
      go_ret
      exact ⟨rfl, hb⟩
theorem made_any (g : Nat) (g1 : 1 ≤ g) (g2 : g ≤ 65535) (w : World) : Calls Try.prog 14 #[.int .i64 (g : Int)] w fun e w' =>
    ∃ sb, e = .returned (.tuple #[.pointer (some ⟨w.heap.size + 2, 0, none⟩), .pointer (some ⟨sb, 0, none⟩)]) ∧ Sx w w' (w.heap.size + 2) sb g 0 (newDk 40) := by
  have CN : Hid (∀ w, Calls Try.prog 10 #[.int .i64 40] w fun e w' => e = .returned (.tuple #[.pointer (some ⟨w.heap.size + 2, 0, none⟩), .int .i64 0]) ∧ DkIs w' (w.heap.size + 2) w.heap.size (w.heap.size + 1) 0 (newDk 40) ∧ Below w.heap.size w w') :=
    fun w => New_any 40 (by omega) (by omega) w
  have CS : Hid (∀ w db lb mb, DkIs w db lb mb 0 (newDk 40) → Calls Try.prog 11 #[.pointer (some ⟨db, 0, none⟩), .int .i64 5, .int .i64 8, .int .i64 (g : Int)] w fun e w' =>
      e = .returned (.tuple #[.pointer (some ⟨w.heap.size, 0, none⟩), .int .i64 0]) ∧ StIs w' w.heap.size db 5 8 g ∧ Below w.heap.size w w') :=
    fun w db lb mb h => StNew_good 5 8 g w h (newDk_ok (by omega) (by omega)) g1 g2 (by omega) (by omega) (by simp [newDk])
  go_enter Try.func14, Try.ntmps14
  go_wp2_with (first
    | (go_at_call 10; refine (CN.out _).mono ?_; rintro e w1 ⟨rfl, h1, b1⟩)
    | (go_at_call 11; refine (CS.out _ _ _ _ h1).mono ?_; rintro e w2 ⟨rfl, h2, b2⟩))
  go_ret2
  have hs := h1.lt
  refine ⟨_, rfl, ⟨⟨w.heap.size, w.heap.size + 1, 0, h1.below b2, Nat.le_refl _, Nat.le_refl _, by omega, ?_⟩, Dq.new (by omega) (by omega), rfl, g1, g2, h2, by omega, b1.trans (b2.mono b1.size)⟩⟩
  rintro (e | e | e) <;> omega
end Go.Proofs.Ytdgnfglghiecpaa
