/- StoreWrites: just which bytes a page that is written has in its sectors, or why it is not written. -/
import Derived.Test.YtdgnfglghiecpaaAw
namespace Go.Proofs.Ytdgnfglghiecpaa
open Go.RowKit Go.Maps Go.ChangeMaps
set_option linter.unusedVariables false
set_option linter.unusedSimpArgs false
set_option maxRecDepth 100000

variable {W w w' : World} {db sb g k : Nat} {S : Dk}

theorem writes_far (a i l : Int) (t : ByteArray) (h : a < 1 ∨ 65535 < a) (w : World) : Calls Try.prog 4 #[.int .i64 a, .int .i64 i, .string t, .int .i64 l] w fun e w' => e = .returned (.bool true) ∧ Below w.heap.size w w' := by
  have hc : a < 1 ∨ (¬ a < 1 ∧ 65535 < a) := by omega
  clear h
  rcases hc with h1 | ⟨h1, h2⟩
  all_goals
    go_enter Try.func4, Try.ntmps4
    go_wp2_with (go_at_call 9; refine (awake_any _).mono ?_; rintro e w' ⟨rfl, hb⟩)
    go_ret
    exact ⟨rfl, hb⟩
theorem new_waits : (newDk 40).waitL.length = 0 := by
  have : (newDk 40).waitL = [] := by
    unfold Dk.waitL newDk
    apply List.filter_eq_nil_iff.2
    intro a _; simp
  rw [this]; rfl
theorem Sx.waiting0 (h : Sx W w db sb g k S) (hk : k ≤ 10000) (n : Nat) (hn : S.waitL.length = n) : Calls Try.prog 16 #[.pointer (some ⟨db, 0, none⟩)] w fun e w' =>
    ∃ (a : Option Addr) (cap : Nat), e = .returned (.slice a n cap) ∧ Sx W w' db sb g k S := by
  have := h.waiting hk
  rwa [hn] at this
set_option maxHeartbeats 1000000 in
theorem writes_bad (a : Nat) (a1 : 1 ≤ a) (a2 : a ≤ 65535) (i l : Int) (t : ByteArray) (ht : t.size ≤ 140737488351232) (h : i < 0 ∨ 8 ≤ i ∨ t.size ≠ 224 ∨ l < 0 ∨ 281474976710656 ≤ l) (w : World) : Calls Try.prog 4 #[.int .i64 (a : Int), .int .i64 i, .string t, .int .i64 l] w fun e w' => e = .returned (.bool true) ∧ Below w.heap.size w w' := by
  have CM : Hid (Calls Try.prog 14 #[.int .i64 (a : Int)] w fun e w' =>
    ∃ sb, e = .returned (.tuple #[.pointer (some ⟨w.heap.size + 2, 0, none⟩), .pointer (some ⟨sb, 0, none⟩)]) ∧ Sx w w' (w.heap.size + 2) sb a 0 (newDk 40)) := made_any a a1 a2 w
  obtain ⟨S0, hS0⟩ : ∃ S, S = newDk 40 := ⟨_, rfl⟩
  have hw0 : S0.waitL.length = 0 := by rw [hS0]; exact new_waits
  rw [← hS0] at CM
  have i1 : ¬ (a : Int) < 1 := by omega
  have i2 : ¬ 65535 < (a : Int) := by omega
  have C2 : Hid (∀ w1 sb, Sx w w1 (w.heap.size + 2) sb a 4 S0 → Calls Try.prog 16 #[.pointer (some ⟨w.heap.size + 2, 0, none⟩)] w1 fun e w' =>
      ∃ (x : Option Addr) (cap : Nat), e = .returned (.slice x 0 cap) ∧ Sx w w' (w.heap.size + 2) sb a 4 S0) := fun w1 sb h => h.waiting0 (by omega) 0 hw0
  have C1 : ∀ x : Int, stOut 5 8 a S0 i t l = (S0, x) → Hid (∀ w1 sb, Sx w w1 (w.heap.size + 2) sb a 0 S0 → Calls Try.prog 15 #[.pointer (some ⟨sb, 0, none⟩), .int .i64 i, .string t, .int .i64 l] w1 fun e w' => e = .returned (.int .i64 x) ∧ Sx w w' (w.heap.size + 2) sb a 4 S0) := fun x hx w1 sb h => by
    have := h.write (by omega) i t ht l
    rwa [hx] at this
  unfold stOut at C1
  have hc : i < 0 ∨ (¬ i < 0 ∧ 8 ≤ i) ∨ (¬ i < 0 ∧ ¬ 8 ≤ i ∧ t.size ≠ 224) ∨ (¬ i < 0 ∧ ¬ 8 ≤ i ∧ t.size = 224 ∧ l < 0) ∨ (¬ i < 0 ∧ ¬ 8 ≤ i ∧ t.size = 224 ∧ ¬ l < 0 ∧ 281474976710656 ≤ l) := by omega
  clear h hS0
  rcases hc with h1 | ⟨h1, h2⟩ | ⟨h1, h2, h3⟩ | ⟨h1, h2, h3, h4⟩ | ⟨h1, h2, h3, h4, h5⟩
  · have C := C1 6 (by rw [if_pos (by omega)])
    clear C1
    go_enter Try.func4, Try.ntmps4
    go_wp2_with (first
      | (go_at_call 14; refine CM.out.mono ?_; rintro e w1 ⟨sb, rfl, h0⟩)
      | (go_at_call 15; refine (C.out _ _ h0).mono ?_; clear h0; rintro e w2 ⟨rfl, hs⟩)
      | (go_at_call 16; refine (C2.out _ _ hs).mono ?_; clear hs; rintro e w3 ⟨x, cap, rfl, hs⟩)
      | (go_at_call 9; refine (awake_any _).mono ?_; rintro e w5 ⟨rfl, b5⟩))
    go_ret
    exact ⟨rfl, hs.bel.trans (b5.mono hs.bel.size)⟩
  · have C := C1 6 (by rw [if_pos (by omega)])
    clear C1
    go_enter Try.func4, Try.ntmps4
    go_wp2_with (first
      | (go_at_call 14; refine CM.out.mono ?_; rintro e w1 ⟨sb, rfl, h0⟩)
      | (go_at_call 15; refine (C.out _ _ h0).mono ?_; clear h0; rintro e w2 ⟨rfl, hs⟩)
      | (go_at_call 16; refine (C2.out _ _ hs).mono ?_; clear hs; rintro e w3 ⟨x, cap, rfl, hs⟩)
      | (go_at_call 9; refine (awake_any _).mono ?_; rintro e w5 ⟨rfl, b5⟩))
    go_ret
    exact ⟨rfl, hs.bel.trans (b5.mono hs.bel.size)⟩
  · have C := C1 4 (by rw [if_neg (by omega), if_pos h3])
    have hz : ((t.size : Int) == 224) = false := by simp; omega
    have hz' : ((t.size : Int) != 224) = true := by simp; omega
    clear C1
    go_enter Try.func4, Try.ntmps4
    go_wp2_with (first
      | (go_at_call 14; refine CM.out.mono ?_; rintro e w1 ⟨sb, rfl, h0⟩)
      | (go_at_call 15; refine (C.out _ _ h0).mono ?_; clear h0; rintro e w2 ⟨rfl, hs⟩)
      | (go_at_call 16; refine (C2.out _ _ hs).mono ?_; clear hs; rintro e w3 ⟨x, cap, rfl, hs⟩)
      | (go_at_call 9; refine (awake_any _).mono ?_; rintro e w5 ⟨rfl, b5⟩))
    go_ret
    exact ⟨rfl, hs.bel.trans (b5.mono hs.bel.size)⟩
  · have C := C1 6 (by rw [if_neg (by omega), if_neg (by omega), if_pos (by omega)])
    clear C1
    go_enter Try.func4, Try.ntmps4
    go_wp2_with (first
      | (go_at_call 14; refine CM.out.mono ?_; rintro e w1 ⟨sb, rfl, h0⟩)
      | (go_at_call 15; refine (C.out _ _ h0).mono ?_; clear h0; rintro e w2 ⟨rfl, hs⟩)
      | (go_at_call 16; refine (C2.out _ _ hs).mono ?_; clear hs; rintro e w3 ⟨x, cap, rfl, hs⟩)
      | (go_at_call 9; refine (awake_any _).mono ?_; rintro e w5 ⟨rfl, b5⟩))
    go_ret
    exact ⟨rfl, hs.bel.trans (b5.mono hs.bel.size)⟩
  · have C := C1 6 (by rw [if_neg (by omega), if_neg (by omega), if_pos (by omega)])
    clear C1
    go_enter Try.func4, Try.ntmps4
    go_wp2_with (first
      | (go_at_call 14; refine CM.out.mono ?_; rintro e w1 ⟨sb, rfl, h0⟩)
      | (go_at_call 15; refine (C.out _ _ h0).mono ?_; clear h0; rintro e w2 ⟨rfl, hs⟩)
      | (go_at_call 16; refine (C2.out _ _ hs).mono ?_; clear hs; rintro e w3 ⟨x, cap, rfl, hs⟩)
      | (go_at_call 9; refine (awake_any _).mono ?_; rintro e w5 ⟨rfl, b5⟩))
    go_ret
    exact ⟨rfl, hs.bel.trans (b5.mono hs.bel.size)⟩
theorem waits4 (i : Nat) (hi : i < 8) (t : Nat → ByteArray) : (put4 (5 + 4 * i) t (newDk 40) 4).waitL.length = 4 := by
  have e : (put4 (5 + 4 * i) t (newDk 40) 4).waitL = (List.range 40).filter (fun j => decide (5 + 4 * i ≤ j ∧ j < 5 + 4 * i + 4)) := by
    unfold Dk.waitL
    apply List.filter_congr
    intro j hj
    show (if 5 + 4 * i ≤ j ∧ j < 5 + 4 * i + 4 then some (pad (t (j - (5 + 4 * i)))) else none).isSome = _
    by_cases h : 5 + 4 * i ≤ j ∧ j < 5 + 4 * i + 4
    · rw [if_pos h]; simp [h]
    · rw [if_neg h]; simp [h]
  rw [e]
  have : i = 0 ∨ i = 1 ∨ i = 2 ∨ i = 3 ∨ i = 4 ∨ i = 5 ∨ i = 6 ∨ i = 7 := by omega
  rcases this with rfl | rfl | rfl | rfl | rfl | rfl | rfl | rfl <;> decide
/-- The law's number. -/
def nf (n k : Int) : ByteArray := Pk.beS n.toNat k.toNat
theorem nf_any (n k : Int) (w : World) (h0 : 0 ≤ n) (h1 : n ≤ 281474976710656) (k0 : 0 ≤ k) (k1 : k ≤ 6) : Calls Try.prog 18 #[.int .i64 n, .int .i64 k] w fun e w' => e = .returned (.string (nf n k)) ∧ Below w.heap.size w w' := by
  have := Pk.lawnum_any n.toNat k.toNat w (by omega) (by omega)
  rwa [Int.toNat_of_nonneg h0, Int.toNat_of_nonneg k0] at this
theorem nf_size (n k : Int) : (nf n k).size = k.toNat := Pk.beS_size _ _
end Go.Proofs.Ytdgnfglghiecpaa
