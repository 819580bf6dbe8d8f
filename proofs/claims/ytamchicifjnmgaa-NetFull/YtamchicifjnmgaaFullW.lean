/- The law NetFull, walked. -/
import Derived.Test.YtamchicifjnmgaaSta
import Derived.Lib.SlBytesRow
namespace Go.Proofs.Ytamchicifjnmgaa
open Go.RowKit
set_option linter.unusedVariables false
set_option linter.unusedSimpArgs false
set_option maxRecDepth 100000

set_option maxHeartbeats 1000000 in
theorem full_walk (k : Int) (w : World) : Calls Try.prog 5 #[.int .i64 k] w fun e w' => e = .returned (.bool true) ∧ Below w.heap.size w w' := by
  by_cases hk : k < 0 ∨ 140 < k
  · by_cases h1 : k < 0
    · clear hk
      go_enter Try.func5, Try.ntmps5
      go_wp2_with (go_at_call 10; refine (awake_any _).mono ?_; rintro e w1 ⟨rfl, hb⟩)
      go_ret
      exact ⟨rfl, hb⟩
    · have h2 : 140 < k := by omega
      clear hk
      go_enter Try.func5, Try.ntmps5
      go_wp2_with (go_at_call 10; refine (awake_any _).mono ?_; rintro e w1 ⟨rfl, hb⟩)
      go_ret
      exact ⟨rfl, hb⟩
  · obtain ⟨m, rfl⟩ : ∃ m : Nat, k = (m : Int) := ⟨k.toNat, by omega⟩
    have h2 : ¬ (140 : Int) < (m : Int) := by omega
    clear hk
    have H0 : Hid (Play w.heap.size w ((w.alloc (.cells #[.slice none 0 0, .int .i64 0, .int .i64 0] 49)).alloc (.cells #[.slice none 0 0, .int .i64 0, .int .i64 0] 28)) w.heap.size (w.heap.size + 1) 0) := Play.new w
    have CS : Hid (∀ w1 (j : Nat) (kd : Int) (s : ByteArray), Play w.heap.size w w1 w.heap.size (w.heap.size + 1) j → j < 1000 → Calls Try.prog 8 #[.pointer (some ⟨w.heap.size, 0, none⟩), .pointer (some ⟨w.heap.size + 1, 0, none⟩), .agg #[.int .i64 kd, .int .i64 0, .int .i64 0, .string s]] w1 fun e w' => e = .returned (.bool true) ∧ Play w.heap.size w w' w.heap.size (w.heap.size + 1) (j + 1)) := fun w1 j kd s h hj => h.step hj kd 0 0 s
    have CT : Hid (∀ w1 (j : Nat), Play w.heap.size w w1 w.heap.size (w.heap.size + 1) j → j ≤ 1000 → Calls Try.prog 9 #[.pointer (some ⟨w.heap.size, 0, none⟩), .pointer (some ⟨w.heap.size + 1, 0, none⟩)] w1 fun e w' => e = .returned (.bool true) ∧ Play w.heap.size w w' w.heap.size (w.heap.size + 1) j) := fun w1 j h hj => h.stands hj
    go_enter Try.func5, Try.ntmps5
    go_wp2_with (go_at_call 7; refine (New_any _).mono ?_; rintro e w1 ⟨rfl, hw1⟩; subst hw1)
    go_loopw [5] (fun iv wr => ∃ (i : Nat), iv = .int .i64 (i : Int) ∧ i ≤ m ∧ Hid (Play w.heap.size w wr w.heap.size (w.heap.size + 1) i)) (fun iv _ => m - (intOf iv).toNat)
    case atStart => exact ⟨0, rfl, Nat.zero_le _, H0⟩
    case round =>
      obtain ⟨i, rfl, him, hP⟩ := hrel
      by_cases hi : i < m
      · have hi' : (i : Int) < (m : Int) := by omega
        have HM : Hid (m ≤ 140) := by exact Int.ofNat_le.1 (by omega)
        obtain ⟨t, hcv⟩ : ∃ t : ByteArray, (convert 41 9 (.slice (some ⟨wr.heap.size, 0, none⟩) 1 1)).run Try.prog (wr.alloc (.cells #[.int .u8 (i : Int)] 5)) = .ok (.string t) (wr.alloc (.cells #[.int .u8 (i : Int)] 5)) := by
          refine ⟨⟨#[UInt8.ofNat i]⟩, Lib.run_convert_whole (P := Try.prog) _ 41 5 9 Try.underlying41 Try.underlying5 Try.underlying9 wr.heap.size 0 ⟨#[UInt8.ofNat i]⟩ (fun j hj => ?_) 1⟩
          obtain rfl : j = 0 := by have : j < 1 := hj; omega
          have hii : (i : Int) = ((UInt8.ofNat i).toNat : Int) := by
            have := HM.out
            rw [UInt8.toNat_ofNat']
            omega
          simp
          exact hii
        go_wp2_with (go_at_call 8; refine (CS.out _ _ _ _ (hP.out.alloc _) (by have := HM.out; omega)).mono ?_; rintro e w2 ⟨rfl, hP2⟩)
        have hz := HM.out
        go_roundw
        case rel => exact ⟨i + 1, by go_num, by omega, hP2⟩
        case measure => simp [intOf]; omega
      · obtain rfl : i = m := by omega
        have hi' : ¬ (i : Int) < (i : Int) := by omega
        go_wp2_with (first | (go_at_call 8; refine (CS.out _ _ _ _ hP.out (by omega)).mono ?_; rintro e w2 ⟨rfl, hP2⟩) | (go_at_call 9; refine (CT.out _ _ hP2 (by omega)).mono ?_; rintro e w3 ⟨rfl, hP3⟩) | (go_at_call 10; refine (awake_any _).mono ?_; rintro e w4 ⟨rfl, hb⟩))
        go_ret
        have hbb := hP3.bel
        exact ⟨rfl, hbb.1.trans (hb.mono hbb.2)⟩
end Go.Proofs.Ytamchicifjnmgaa
