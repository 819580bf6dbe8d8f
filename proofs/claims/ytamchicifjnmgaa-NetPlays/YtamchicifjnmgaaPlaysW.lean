/- The law NetPlays, walked. -/
import Derived.Test.YtamchicifjnmgaaSta
import Derived.Test.YtamchicifjnmgaaOps4
namespace Go.Proofs.Ytamchicifjnmgaa
open Go.RowKit
set_option linter.unusedVariables false
set_option linter.unusedSimpArgs false
set_option maxRecDepth 100000

set_option maxHeartbeats 1000000 in
theorem plays_walk (ao : Option Addr) (len cap : Nat) (f : Nat → Call4) (w : World) (ho : IsOps w ao len f) :
    Calls Try.prog 3 #[.slice ao len cap] w fun e w' => e = .returned (.bool true) ∧ Below w.heap.size w w' := by
  have HO : Hid (IsOps w ao len f) := ho
  clear ho
  have H0 : Hid (Play w.heap.size w ((w.alloc (.cells #[.slice none 0 0, .int .i64 0, .int .i64 0] 49)).alloc (.cells #[.slice none 0 0, .int .i64 0, .int .i64 0] 28)) w.heap.size (w.heap.size + 1) 0) := Play.new w
  have CS : Hid (∀ w1 (j : Nat) (kd i k : Int) (s : ByteArray), Play w.heap.size w w1 w.heap.size (w.heap.size + 1) j → j < 1000 → Calls Try.prog 8 #[.pointer (some ⟨w.heap.size, 0, none⟩), .pointer (some ⟨w.heap.size + 1, 0, none⟩), .agg #[.int .i64 kd, .int .i64 i, .int .i64 k, .string s]] w1 fun e w' => e = .returned (.bool true) ∧ Play w.heap.size w w' w.heap.size (w.heap.size + 1) (j + 1)) := fun w1 j kd i k s h hj => h.step hj kd i k s
  have CT : Hid (∀ w1 (j : Nat), Play w.heap.size w w1 w.heap.size (w.heap.size + 1) j → j ≤ 1000 → Calls Try.prog 9 #[.pointer (some ⟨w.heap.size, 0, none⟩), .pointer (some ⟨w.heap.size + 1, 0, none⟩)] w1 fun e w' => e = .returned (.bool true) ∧ Play w.heap.size w w' w.heap.size (w.heap.size + 1) j) := fun w1 j h hj => h.stands hj
  go_enter Try.func3, Try.ntmps3
  go_wp2_with (go_at_call 7; refine (New_any _).mono ?_; rintro e w1 ⟨rfl, hw1⟩; subst hw1)
  go_loopw [5] (fun iv wr => ∃ (i : Nat), iv = .int .i64 (i : Int) ∧ i ≤ 60 ∧ i ≤ len ∧ Hid (Play w.heap.size w wr w.heap.size (w.heap.size + 1) i)) (fun iv _ => 60 - (intOf iv).toNat)
  case atStart => exact ⟨0, rfl, by omega, Nat.zero_le _, H0⟩
  case round =>
    obtain ⟨i, rfl, hi60, hil, hP⟩ := hrel
    by_cases hi : i < len
    · by_cases hj : i < 60
      · have hi' : (i : Int) < (len : Int) := by omega
        have hj' : (i : Int) < 60 := by omega
        obtain ⟨b, off, rfl, hb, g1, g2, g3, g4⟩ := HO.out.at_ rfl hP.out.bel.1 hi
        generalize (f i).kd = kd at g1
        generalize (f i).i = ii at g2
        generalize (f i).k = kk at g3
        generalize (f i).s = ss at g4
        clear HO f H0
        go_wp2_with (first | (go_at_call 8; refine (CS.out _ _ _ _ _ _ hP.out (by omega)).mono ?_; rintro e w2 ⟨rfl, hP2⟩) | (go_at_call 9; refine (CT.out _ _ hP2 (by omega)).mono ?_; rintro e w3 ⟨rfl, hP3⟩))
        go_roundw
        case rel => exact ⟨i + 1, by go_num, by omega, by omega, hP3⟩
        case measure => simp [intOf]; omega
      · obtain rfl : i = 60 := by omega
        have hi' : (60 : Int) < (len : Int) := by omega
        go_wp2_with (go_at_call 10; refine (awake_any _).mono ?_; rintro e w4 ⟨rfl, hb⟩)
        go_ret
        have hbb := hP.out.bel
        exact ⟨rfl, hbb.1.trans (hb.mono hbb.2)⟩
    · obtain rfl : i = len := by omega
      have hi' : ¬ (i : Int) < (i : Int) := by omega
      go_wp2_with (go_at_call 10; refine (awake_any _).mono ?_; rintro e w4 ⟨rfl, hb⟩)
      go_ret
      have hbb := hP.out.bel
      exact ⟨rfl, hbb.1.trans (hb.mono hbb.2)⟩
end Go.Proofs.Ytamchicifjnmgaa
