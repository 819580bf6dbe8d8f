/- The store: a mark's bytes laid. -/
import Derived.Test.YtdgnfglghiecpaaSt
namespace Go.Proofs.Ytdgnfglghiecpaa
open Go.RowKit Go.Maps Go.ChangeMaps
set_option linter.unusedVariables false
set_option linter.unusedSimpArgs false
set_option maxRecDepth 100000

set_option maxHeartbeats 1000000 in
theorem laid_any (w : World) (g : Nat) (l : Int) (hg : g ≤ 65535) : Calls Try.prog 30 #[.agg #[.int .i64 (g : Int), .int .i64 l]] w fun e w' => e = .returned (.tuple #[.string (laidV g l).1, .int .i64 (laidV g l).2]) ∧ Below w.heap.size w w' := by
  have h1 : WS ((w.alloc (.cells #[.int .i64 (g : Int), .int .i64 l] 68)).alloc (.cells #[.pointer none, .int .i64 0, .int .i64 0] 84)) w.heap.size (w.heap.size + 1) (g : Int) l (⟨#[]⟩, 0) 0 := by
    have h := wr_new (w.alloc (.cells #[.int .i64 (g : Int), .int .i64 l] 68))
    rw [show (w.alloc (.cells #[.int .i64 (g : Int), .int .i64 l] 68)).heap.size = w.heap.size + 1 by simp] at h
    exact ⟨h, Nat.le_refl _, by simp; omega, (Below.heap_alloc _ _ _ (by simp)).trans (MapKept.heap_alloc w _).1⟩
  obtain ⟨f, hf⟩ : ∃ f, f = stepW := ⟨_, rfl⟩
  have C1 : Hid (∀ w' n k (A : ByteArray × Int) (j : Nat), WS w' w.heap.size (w.heap.size + 1) (g : Int) l A j → j ≤ 100 →
      Calls Try.prog 40 #[.pointer (some ⟨w.heap.size + 1, 0, none⟩), .int .i64 n, .int .i64 k] w' fun r w'' => r = .returned (.tuple #[]) ∧ WS w'' w.heap.size (w.heap.size + 1) (g : Int) l (f A n k) (j + 6) ∧ Pk.Off (w.heap.size + 1) w' w'') := fun w' n k A j h hz => by
    refine (Pk.WNum_any (w.heap.size + 1) A.1 A.2 n k w' h.wr (by have := h.sz; omega)).mono ?_
    rintro e w'' ⟨he, hw, ho⟩
    rw [hf]
    exact ⟨he, ⟨hw, by have := stepW_size A n k; have := h.sz; omega, Nat.lt_of_lt_of_le h.lt ho.size, (ho.block _ h.lt (by omega)).trans h.mrk⟩, ho⟩
  have hL := stepW_laid hg l
  rw [← hf] at hL
  rw [← hL]
  have hBe : Hid ((f (f (⟨#[]⟩, 0) (g : Int) 2) l 6).2 ≠ 0 → (f (f (⟨#[]⟩, 0) (g : Int) 2) l 6).1 = ⟨#[]⟩) := by
    intro hy
    rw [hL] at hy ⊢
    unfold laidV at hy ⊢
    split at hy
    · rw [if_pos (by assumption)]
    · exact absurd rfl hy
  clear hL hf
  have BB : Hid (Below w.heap.size w ((w.alloc (.cells #[.int .i64 (g : Int), .int .i64 l] 68)).alloc (.cells #[.pointer none, .int .i64 0, .int .i64 0] 84))) := ((Below.refl _ _).alloc (Nat.le_refl _) _).alloc (by simp) _
  go_enter Try.func30, Try.ntmps30
  go_wp2_with (first
    | (go_at_call 40; refine (C1.out _ _ _ _ _ h1 (by omega)).mono ?_; clear h1; rintro e w1 ⟨rfl, h1, o1⟩; have k1 := h1.k1; have B2 : Hid (Below w.heap.size w w1) := BB.out.trans (o1.below (by omega) BB.out.size); clear BB; have BB : Hid (Below w.heap.size w w1) := B2.out; clear B2 o1)
    | (go_at_call 41; refine (All_both _ _ _ _ h1.wr (by have := h1.sz; omega) hBe.out).mono ?_; rintro e w3 ⟨rfl, b3⟩))
  go_ret2
  have o : Below w.heap.size w w1 := BB.out
  exact ⟨rfl, o.trans (b3.mono o.size)⟩
end Go.Proofs.Ytdgnfglghiecpaa
