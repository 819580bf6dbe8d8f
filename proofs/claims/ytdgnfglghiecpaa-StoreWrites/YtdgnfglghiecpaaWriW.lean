/- StoreWrites: just which bytes a page that is written has in its sectors, or why it is not written. -/
import Derived.Test.YtdgnfglghiecpaaWriA
import Derived.Deep.RegionHeld3
namespace Go.Proofs.Ytdgnfglghiecpaa
open Go.RowKit Go.Maps Go.ChangeMaps
set_option linter.unusedVariables false
set_option linter.unusedSimpArgs false
set_option maxRecDepth 100000

set_option maxHeartbeats 2000000 in
theorem writes_in (a i : Nat) (l : Int) (a1 : 1 ≤ a) (a2 : a ≤ 65535) (hi : i < 8) (l0 : 0 ≤ l) (hl : l < 281474976710656) (t : ByteArray) (ht : t.size = 224) (w : World) : Calls Try.prog 4 #[.int .i64 (a : Int), .int .i64 (i : Int), .string t, .int .i64 l] w fun e w' => e = .returned (.bool true) ∧ Below w.heap.size w w' := by
  have CM : Hid (Calls Try.prog 14 #[.int .i64 (a : Int)] w fun e w' =>
    ∃ sb, e = .returned (.tuple #[.pointer (some ⟨w.heap.size + 2, 0, none⟩), .pointer (some ⟨sb, 0, none⟩)]) ∧ Sx w w' (w.heap.size + 2) sb a 0 (newDk 40)) := made_any a a1 a2 w
  obtain ⟨S1, hS1⟩ : ∃ S, S = put4 (5 + 4 * i) (sec a l.toNat t) (newDk 40) 4 := ⟨_, rfl⟩
  obtain ⟨S0, hS0⟩ : ∃ S, S = newDk 40 := ⟨_, rfl⟩
  rw [← hS0] at CM
  have C1 : Hid (∀ w1 sb, Sx w w1 (w.heap.size + 2) sb a 0 S0 → Calls Try.prog 15 #[.pointer (some ⟨sb, 0, none⟩), .int .i64 (i : Int), .string t, .int .i64 l] w1 fun e w' => e = .returned (.int .i64 0) ∧ Sx w w' (w.heap.size + 2) sb a 4 S1) := fun w1 sb h => by
    rw [hS0] at h; rw [hS1]
    have := h.put (by omega) rfl rfl i hi t ht l.toNat (by omega)
    rwa [Int.toNat_of_nonneg l0] at this
  have hu : S1.up = true := by rw [hS1]; rfl
  obtain ⟨Q, hQ⟩ : ∃ Q : Nat → ByteArray, Q = sec a l.toNat t := ⟨_, rfl⟩
  have CR : Hid (∀ w1 sb (j : Nat), Sx w w1 (w.heap.size + 2) sb a 4 S1 → j < 4 → Calls Try.prog 17 #[.pointer (some ⟨w.heap.size + 2, 0, none⟩), .int .i64 (5 + 4 * (i : Int) + (j : Int))] w1 fun e w' =>
      e = .returned (.tuple #[.string (Q j), .int .i64 0]) ∧ Sx w w' (w.heap.size + 2) sb a 4 S1) := fun w1 sb j h hj => by
    have := h.dread hu (5 + 4 * i + j) (by omega)
    have e1 : ((5 + 4 * i + j : Nat) : Int) = 5 + 4 * (i : Int) + (j : Int) := by omega
    have e2 : S1.now (5 + 4 * i + j) = Q j := by rw [hS1, hQ]; exact put4_sec _ a l.toNat t ht _ j hj
    rwa [e1, e2] at this
  have hr : rdOut 5 8 a S1 (i : Int) = (t, l, 0) := by
    unfold rdOut
    rw [if_neg (by omega), Int.toNat_natCast, hS1]
    rw [← Int.toNat_of_nonneg l0, Int.toNat_natCast]
    exact rdV_whole a2 (by omega) ht (fun j hj => put4_sec _ a l.toNat t ht _ j hj)
  have C3 : Hid (∀ w1 sb, Sx w w1 (w.heap.size + 2) sb a 4 S1 → Calls Try.prog 19 #[.pointer (some ⟨sb, 0, none⟩), .int .i64 (i : Int)] w1 fun e w' => e = .returned (.tuple #[.string t, .int .i64 l, .int .i64 0]) ∧ Sx w w' (w.heap.size + 2) sb a 4 S1) := fun w1 tb h => by
    have := h.read hu (i : Int)
    rwa [hr] at this
  have C4 : Hid (∀ w1 sb, Sx w w1 (w.heap.size + 2) sb a 4 S1 → Calls Try.prog 20 #[.pointer (some ⟨sb, 0, none⟩), .int .i64 (i : Int), .int .i64 l] w1 fun e w' => e = .returned (.bool true) ∧ Sx w w' (w.heap.size + 2) sb a 4 S1) := fun w1 tb h => by
    have := h.is hu (i : Int) l
    rw [hr] at this
    simpa using this
  have C5 : Hid (∀ w1 sb, Sx w w1 (w.heap.size + 2) sb a 4 S1 → Calls Try.prog 16 #[.pointer (some ⟨w.heap.size + 2, 0, none⟩)] w1 fun e w' =>
      ∃ (x : Option Addr) (cap : Nat), e = .returned (.slice x 4 cap) ∧ Sx w w' (w.heap.size + 2) sb a 4 S1) := fun w1 sb h => h.waiting0 (by omega) 4 (by rw [hS1]; exact waits4 i hi _)
  obtain ⟨N, hN⟩ : ∃ N, N = nf := ⟨_, rfl⟩
  have CN : Hid (∀ n k w, 0 ≤ n → n ≤ 281474976710656 → 0 ≤ k → k ≤ 6 → Calls Try.prog 18 #[.int .i64 n, .int .i64 k] w fun e w' => e = .returned (.string (N n k)) ∧ Below w.heap.size w w') := fun n k w h0 h1 k0 k1 => by rw [hN]; exact nf_any n k w h0 h1 k0 k1
  have hcat : Hid (∀ j : Nat, N (a : Int) 2 ++ N l 6 ++ t.extract (56 * j) (56 * j + 56) = Q j) := fun j => by
    rw [hN, hQ]
    show _ = hd a l.toNat ++ t.extract (j * 56) ((j + 1) * 56)
    rw [show j * 56 = 56 * j by omega, show (j + 1) * 56 = 56 * j + 56 by omega]
    rfl
  have z2 : (N (a : Int) 2).size = 2 := by rw [hN]; exact nf_size _ _
  have z6 : (N l 6).size = 6 := by rw [hN]; exact nf_size _ _
  have i1 : ¬ (a : Int) < 1 := by omega
  have i2 : ¬ 65535 < (a : Int) := by omega
  have i3 : ¬ (i : Int) < 0 := by omega
  have i4 : ¬ 8 ≤ (i : Int) := by omega
  have i5 : ¬ l < 0 := by omega
  have i6 : ¬ 281474976710656 ≤ l := by omega
  have i7 : (0 : Int) ≤ (a : Int) := by omega
  have i8 : (a : Int) ≤ 281474976710656 := by omega
  have i9 : 0 ≤ l := by omega
  have i10 : l ≤ 281474976710656 := by omega
  clear hr hu hS0 hS1 hN hQ a1 a2 hl
  go_enter Try.func4, Try.ntmps4
  go_wp2_with (first
    | (go_at_call 14; refine CM.out.mono ?_; rintro e w1 ⟨sb, rfl, h0⟩)
    | (go_at_call 15; refine (C1.out _ _ h0).mono ?_; clear h0; rintro e w2 ⟨rfl, hs⟩))
  go_loopw [12] (fun x wr => ∃ j : Nat, j ≤ 4 ∧ x = .int .i64 j ∧ Sx w wr (w.heap.size + 2) sb a 4 S1) (fun x _ => 4 - (intOf x).toNat)
  case atStart => exact ⟨0, by omega, rfl, hs⟩
  case round =>
    obtain ⟨j, hj, rfl, hs⟩ := hrel
    by_cases hlt : j < 4
    · have hc := hcat.out j
      have x1 : 56 * (j : Int) ≤ 224 := by omega
      have x2 : 56 * (j : Int) + 56 ≤ 224 := by omega
      have x3 : (t.extract (56 * j) (56 * j + 56)).size = 56 := by rw [ByteArray.size_extract, ht]; omega
      have x4 : (N (a : Int) 2 ++ N l 6).size = 8 := by rw [ByteArray.size_append, z2, z6]
      have y1 : IntKind.i64.wrap (56 * (j : Int)) = 56 * (j : Int) := IntWalk.i64_in _ (by omega)
      have y2 : IntKind.i64.wrap (56 * (j : Int) + 56) = 56 * (j : Int) + 56 := IntWalk.i64_in _ (by omega)
      have y3 : RowKit.wrap64 (56 * (j : Int)) = 56 * (j : Int) := (IntWalk.i64_left _).symm.trans y1
      have y4 : RowKit.wrap64 (56 * (j : Int) + 56) = 56 * (j : Int) + 56 := (IntWalk.i64_left _).symm.trans y2
      have hsl : ∀ w, (Instr.slice 9 (.string t) (some (.int .i64 (56 * (j : Int)))) (some (.int .i64 (56 * (j : Int) + 56))) none).run Try.prog w = .ok (.string (t.extract (56 * j) (56 * j + 56))) w := fun w => by
        have := run_slice_string (P := Try.prog) w 9 t .i64 .i64 (56 * (j : Int)) (56 * (j : Int) + 56) Try.underlying9 (by omega) (by omega) (by omega)
        rw [this]
        rw [show (56 * (j : Int)).toNat = 56 * j by omega, show (56 * (j : Int) + 56).toNat = 56 * j + 56 by omega]
      go_wp2_with (go_at_call 17; refine (CR.out _ _ j hs hlt).mono ?_; clear hs; rintro e w3 ⟨rfl, hs⟩)
      have hd := hs.drew
      go_region_held3 (fun _ => True) (trivial) ((go_at_call 18; refine (CN.out _ _ _ ?_ ?_ ?_ ?_).mono ?_; omega; omega; omega; omega; rintro e wA ⟨rfl, bA⟩; have hn := hd.below bA; clear hd bA; have hd := hn; clear hn))
      go_wp2
      go_roundw
      case rel => exact ⟨j + 1, by omega, by go_num, hd⟩
      case measure => simp [intOf]; omega
    · obtain rfl : j = 4 := by omega
      go_wp2_with (first
        | (go_at_call 19; refine (C3.out _ _ hs).mono ?_; clear hs; rintro e w4 ⟨rfl, hs⟩)
        | (go_at_call 20; refine (C4.out _ _ hs).mono ?_; clear hs; rintro e w5 ⟨rfl, hs⟩)
        | (go_at_call 16; refine (C5.out _ _ hs).mono ?_; clear hs; rintro e w6 ⟨x, cap, rfl, hs⟩)
        | (go_at_call 9; refine (awake_any _).mono ?_; rintro e w7 ⟨rfl, b7⟩))
      go_ret
      exact ⟨rfl, hs.bel.trans (b7.mono hs.bel.size)⟩
theorem writes_walk (a i l : Int) (t : ByteArray) (ht : t.size ≤ 140737488351232) (w : World) : Calls Try.prog 4 #[.int .i64 a, .int .i64 i, .string t, .int .i64 l] w fun e w' => e = .returned (.bool true) ∧ Below w.heap.size w w' := by
  by_cases h : a < 1 ∨ 65535 < a
  · exact writes_far a i l t h w
  · obtain ⟨a, rfl⟩ : ∃ m : Nat, a = m := ⟨a.toNat, by omega⟩
    by_cases h2 : i < 0 ∨ 8 ≤ i ∨ t.size ≠ 224 ∨ l < 0 ∨ 281474976710656 ≤ l
    · exact writes_bad a (by omega) (by omega) i l t ht h2 w
    · obtain ⟨i, rfl⟩ : ∃ m : Nat, i = m := ⟨i.toNat, by omega⟩
      exact writes_in a i l (by omega) (by omega) (by omega) (by omega) (by omega) t (by omega) w
end Go.Proofs.Ytdgnfglghiecpaa
