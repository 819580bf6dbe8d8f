/- StoreGens: a store of another generation has nothing of the one ahead. -/
import Derived.Test.YtdgnfglghiecpaaAw
namespace Go.Proofs.Ytdgnfglghiecpaa
open Go.RowKit Go.Maps Go.ChangeMaps
set_option linter.unusedVariables false
set_option linter.unusedSimpArgs false
set_option maxRecDepth 100000

variable {W w w' : World} {db sb g k : Nat} {S : Dk}

/-- Another store on the same disk. -/
theorem Sx.again (h : Sx W w db sb g k S) (b : Nat) (b1 : 1 ≤ b) (b2 : b ≤ 65535) : Calls Try.prog 11 #[.pointer (some ⟨db, 0, none⟩), .int .i64 5, .int .i64 8, .int .i64 (b : Int)] w fun e w' =>
    ∃ tb, e = .returned (.tuple #[.pointer (some ⟨tb, 0, none⟩), .int .i64 0]) ∧ Sx W w' db tb b k S := by
  obtain ⟨lb, mb, m, h1, h2, h3, h4, h5⟩ := h.dsk
  refine (StNew_good 5 8 b w h1 h.q.ok b1 b2 (by omega) (by omega) (by rw [h.n]; omega)).mono ?_
  rintro e w' ⟨he, hs, hb⟩
  have hl1 := h1.lt
  have hl2 := h1.row.lt
  have hl3 := h1.map.lt
  refine ⟨w.heap.size, he, ⟨lb, mb, m, h1.below hb, h2, h3, h4, ?_⟩, h.q, h.n, b1, b2, hs, h.hd, h.bel.trans (hb.mono h.bel.size)⟩
  rintro (e | e | e) <;> omega

theorem gens_far (a b i c : Int) (h : a < 1 ∨ 65535 < a ∨ b < 1 ∨ 65535 < b ∨ i < 0 ∨ 8 ≤ i) (w : World) : Calls Try.prog 8 #[.int .i64 a, .int .i64 b, .int .i64 i, .int .u8 c] w fun e w' => e = .returned (.bool true) ∧ Below w.heap.size w w' := by
  have hc : a < 1 ∨ (¬ a < 1 ∧ 65535 < a) ∨ (¬ a < 1 ∧ ¬ 65535 < a ∧ b < 1) ∨ (¬ a < 1 ∧ ¬ 65535 < a ∧ ¬ b < 1 ∧ 65535 < b) ∨ (¬ a < 1 ∧ ¬ 65535 < a ∧ ¬ b < 1 ∧ ¬ 65535 < b ∧ i < 0) ∨ (¬ a < 1 ∧ ¬ 65535 < a ∧ ¬ b < 1 ∧ ¬ 65535 < b ∧ ¬ i < 0 ∧ 8 ≤ i) := by omega
  clear h
  rcases hc with h1 | ⟨h1, h2⟩ | ⟨h1, h2, h3⟩ | ⟨h1, h2, h3, h4⟩ | ⟨h1, h2, h3, h4, h5⟩ | ⟨h1, h2, h3, h4, h5, h6⟩
  all_goals
    go_enter Try.func8, Try.ntmps8
    go_wp2_with (go_at_call 9; refine (awake_any _).mono ?_; rintro e w' ⟨rfl, hb⟩)
    go_ret
    exact ⟨rfl, hb⟩
theorem gens_read {a b i : Nat} (a2 : a ≤ 65535) (t : ByteArray) (ht : t.size = 224) (S : Dk) (hi : i < 8) :
    rdOut 5 8 b (put4 (5 + 4 * i) (sec a 5 t) S 4) (i : Int) = if a = b then (t, 5, 0) else (⟨#[]⟩, 0, 8) := by
  unfold rdOut
  rw [if_neg (by omega), Int.toNat_natCast]
  by_cases e : a = b
  · subst e
    rw [if_pos rfl]
    exact rdV_whole (l := 5) a2 (by omega) ht (fun j hj => put4_sec _ a 5 t ht S j hj)
  · rw [if_neg e]
    refine rdV_none fun j hj => ?_
    rw [put4_sec _ a 5 t ht S j hj, (read_sec a2 (by omega) ht hj).1]
    exact e
set_option maxHeartbeats 1000000 in
theorem gens_in (a b i c : Nat) (a1 : 1 ≤ a) (a2 : a ≤ 65535) (b1 : 1 ≤ b) (b2 : b ≤ 65535) (hi : i < 8) (hc : c < 256) (w : World) : Calls Try.prog 8 #[.int .i64 (a : Int), .int .i64 (b : Int), .int .i64 (i : Int), .int .u8 (c : Int)] w fun e w' => e = .returned (.bool true) ∧ Below w.heap.size w w' := by
  have CM : Hid (Calls Try.prog 14 #[.int .i64 (a : Int)] w fun e w' =>
    ∃ sb, e = .returned (.tuple #[.pointer (some ⟨w.heap.size + 2, 0, none⟩), .pointer (some ⟨sb, 0, none⟩)]) ∧ Sx w w' (w.heap.size + 2) sb a 0 (newDk 40)) := made_any a a1 a2 w
  obtain ⟨T, hT⟩ : ∃ T, T = fillS c := ⟨_, rfl⟩
  have hTz : T.size = 224 := by rw [hT]; exact fillS_size c
  have CF : Hid (∀ w, Calls Try.prog 23 #[.int .u8 (c : Int)] w fun e w' => e = .returned (.string T) ∧ Below w.heap.size w w') := fun w => by rw [hT]; exact fill_any c hc w
  obtain ⟨S1, hS1⟩ : ∃ S, S = put4 (5 + 4 * i) (sec a 5 T) (newDk 40) 4 := ⟨_, rfl⟩
  obtain ⟨S0, hS0⟩ : ∃ S, S = newDk 40 := ⟨_, rfl⟩
  rw [← hS0] at CM
  have C1 : Hid (∀ w1 sb, Sx w w1 (w.heap.size + 2) sb a 0 S0 → Calls Try.prog 15 #[.pointer (some ⟨sb, 0, none⟩), .int .i64 (i : Int), .string T, .int .i64 5] w1 fun e w' => e = .returned (.int .i64 0) ∧ Sx w w' (w.heap.size + 2) sb a 4 S1) := fun w1 sb h => by
    rw [hS0] at h; rw [hS1]; exact h.put (by omega) rfl rfl i hi T hTz 5 (by omega)
  have C2 : Hid (∀ w1 sb, Sx w w1 (w.heap.size + 2) sb a 4 S1 → Calls Try.prog 11 #[.pointer (some ⟨w.heap.size + 2, 0, none⟩), .int .i64 5, .int .i64 8, .int .i64 (b : Int)] w1 fun e w' =>
      ∃ tb, e = .returned (.tuple #[.pointer (some ⟨tb, 0, none⟩), .int .i64 0]) ∧ Sx w w' (w.heap.size + 2) tb b 4 S1) := fun w1 sb h => h.again b b1 b2
  have i1 : ¬ (a : Int) < 1 := by omega
  have i2 : ¬ 65535 < (a : Int) := by omega
  have i3 : ¬ (b : Int) < 1 := by omega
  have i4 : ¬ 65535 < (b : Int) := by omega
  have i5 : ¬ (i : Int) < 0 := by omega
  have i6 : ¬ 8 ≤ (i : Int) := by omega
  have hr : rdOut 5 8 b S1 (i : Int) = if a = b then (T, 5, 0) else (⟨#[]⟩, 0, 8) := by rw [hS1]; exact gens_read a2 T hTz _ hi
  have hu : S1.up = true := by rw [hS1]; rfl
  by_cases hab : a = b
  · rw [if_pos hab] at hr
    have C3 : Hid (∀ w1 tb, Sx w w1 (w.heap.size + 2) tb b 4 S1 → Calls Try.prog 19 #[.pointer (some ⟨tb, 0, none⟩), .int .i64 (i : Int)] w1 fun e w' => e = .returned (.tuple #[.string T, .int .i64 5, .int .i64 0]) ∧ Sx w w' (w.heap.size + 2) tb b 4 S1) := fun w1 tb h => by
      have := h.read hu (i : Int)
      rwa [hr] at this
    have e1 : ((a : Int) == (b : Int)) = true := by simp [hab]
    clear hr hu hS0 hS1 hT a1 a2 b1 b2 hc hi hab
    go_enter Try.func8, Try.ntmps8
    go_wp2_with (first
      | (go_at_call 14; refine CM.out.mono ?_; rintro e w1 ⟨sb, rfl, h0⟩)
      | (go_at_call 23; refine (CF.out _).mono ?_; rintro e wf ⟨rfl, bf⟩)
      | (go_at_call 15; refine (C1.out _ _ (h0.below bf)).mono ?_; clear h0 bf; rintro e w2 ⟨rfl, h1⟩)
      | (go_at_call 11; refine (C2.out _ _ h1).mono ?_; clear h1; rintro e w3 ⟨tb, rfl, h2⟩)
      | (go_at_call 19; refine (C3.out _ _ h2).mono ?_; clear h2; rintro e w4 ⟨rfl, h3⟩)
      | (go_at_call 9; refine (awake_any _).mono ?_; rintro e w5 ⟨rfl, b5⟩))
    go_ret
    have bb := h3.bel.trans (bf.mono h3.bel.size)
    exact ⟨rfl, bb.trans (b5.mono bb.size)⟩
  · rw [if_neg hab] at hr
    have C3 : Hid (∀ w1 tb, Sx w w1 (w.heap.size + 2) tb b 4 S1 → Calls Try.prog 19 #[.pointer (some ⟨tb, 0, none⟩), .int .i64 (i : Int)] w1 fun e w' => e = .returned (.tuple #[.string ⟨#[]⟩, .int .i64 0, .int .i64 8]) ∧ Sx w w' (w.heap.size + 2) tb b 4 S1) := fun w1 tb h => by
      have := h.read hu (i : Int)
      rwa [hr] at this
    have e1 : ((a : Int) == (b : Int)) = false := by simp; omega
    clear hr hu hS0 hS1 hT a1 a2 b1 b2 hc hi hab
    go_enter Try.func8, Try.ntmps8
    go_wp2_with (first
      | (go_at_call 14; refine CM.out.mono ?_; rintro e w1 ⟨sb, rfl, h0⟩)
      | (go_at_call 23; refine (CF.out _).mono ?_; rintro e wf ⟨rfl, bf⟩)
      | (go_at_call 15; refine (C1.out _ _ (h0.below bf)).mono ?_; clear h0 bf; rintro e w2 ⟨rfl, h1⟩)
      | (go_at_call 11; refine (C2.out _ _ h1).mono ?_; clear h1; rintro e w3 ⟨tb, rfl, h2⟩)
      | (go_at_call 19; refine (C3.out _ _ h2).mono ?_; clear h2; rintro e w4 ⟨rfl, h3⟩)
      | (go_at_call 9; refine (awake_any _).mono ?_; rintro e w5 ⟨rfl, b5⟩))
    go_ret
    exact ⟨rfl, h3.bel.trans (b5.mono h3.bel.size)⟩
theorem gens_walk (a b i c : Int) (c0 : 0 ≤ c) (c1 : c ≤ 255) (w : World) : Calls Try.prog 8 #[.int .i64 a, .int .i64 b, .int .i64 i, .int .u8 c] w fun e w' => e = .returned (.bool true) ∧ Below w.heap.size w w' := by
  by_cases h : a < 1 ∨ 65535 < a ∨ b < 1 ∨ 65535 < b ∨ i < 0 ∨ 8 ≤ i
  · exact gens_far a b i c h w
  · obtain ⟨a, rfl⟩ : ∃ m : Nat, a = m := ⟨a.toNat, by omega⟩
    obtain ⟨b, rfl⟩ : ∃ m : Nat, b = m := ⟨b.toNat, by omega⟩
    obtain ⟨i, rfl⟩ : ∃ m : Nat, i = m := ⟨i.toNat, by omega⟩
    obtain ⟨c, rfl⟩ : ∃ m : Nat, c = m := ⟨c.toNat, by omega⟩
    exact gens_in a b i c (by omega) (by omega) (by omega) (by omega) (by omega) (by omega) w
end Go.Proofs.Ytdgnfglghiecpaa
