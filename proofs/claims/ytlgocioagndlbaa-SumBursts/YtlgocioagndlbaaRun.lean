/- The law's own register over a text, bit by bit; its sum; the example; the program's Sum. -/
import Derived.Test.YtlgocioagndlbaaMore
namespace Go.Proofs.Ytlgocioagndlbaa
open Go.RowKit
set_option linter.unusedVariables false
set_option linter.unusedSimpArgs false
set_option maxRecDepth 100000

theorem Sum_any (s : ByteArray) (w : World) (hs : s.size ≤ 281474976710656) :
    Calls Try.prog 10 #[.string s] w fun e w' => e = .returned (.int .i64 (vI (sumB s.data.toList))) ∧ Below w.heap.size w w' := by
  have C1 : Hid (∀ w, Calls Try.prog 13 #[.int .i64 0, .string s] w fun e w' => e = .returned (.int .i64 (vI (sumB s.data.toList))) ∧ Below w.heap.size w w') := by
    intro w
    have := More_any 0 s w hs
    rw [show BitVec.ofInt 32 0 = 0#32 from rfl, more_zero] at this
    exact this
  clear hs
  go_enter Try.func10, Try.ntmps10
  go_wp2_with (go_at_call 13; refine (C1.out _).mono ?_; rintro e w1 ⟨rfl, hb1⟩)
  go_ret
  exact ⟨rfl, hb1⟩

theorem ofB_wrap (b : UInt8) : wrap64 (b.toNat : Int) = vI (ofB b) := by
  rw [ofB_vI, wrap64_vI]
theorem quo_two (c : R) : wrap64 ((vI c).tdiv 2) = vI (c >>> 1) := by
  rw [Int.tdiv_eq_ediv_of_nonneg (vI_nonneg c), shr32, wrap64_vI]
theorem mod_two (c : R) : vI c % (2 : Int) = if c.getLsbD 0 then 1 else 0 := by
  unfold vI
  have : c.getLsbD 0 = decide (c.toNat % 2 = 1) := by
    rw [BitVec.getLsbD, Nat.testBit_zero]
  rw [this]
  by_cases h : c.toNat % 2 = 1
  · simp [h]; omega
  · simp [h]; omega
theorem run_any (c : R) (s : ByteArray) (w : World) (hs : s.size ≤ 281474976710656) :
    Calls Try.prog 14 #[.int .i64 (vI c), .string s] w fun e w' => e = .returned (.int .i64 (vI (runB c s.data.toList))) ∧ w' = w := by
  go_enter Try.func14, Try.ntmps14
  go_wp2
  go_loop [0, 5] (fun r i => ∃ j : Nat, j ≤ s.size ∧ i = .int .i64 j ∧ r = .int .i64 (vI (runB c (s.data.toList.take j)))) (fun _ i => s.size - (intOf i).toNat)
  case atStart => exact ⟨0, Nat.zero_le _, rfl, rfl⟩
  case round =>
    obtain ⟨j, hj, rfl, rfl⟩ := hrel
    by_cases hlt : j < s.size
    · have HS : Hid _ := runB_append c (s.data.toList.take j) [s[j]]
      have HS2 : Hid _ := take_snoc s j hlt
      have e1 := xor64 (runB c (s.data.toList.take j)) (ofB s[j])
      rw [← ofB_wrap] at e1
      generalize runB c (s.data.toList.take j) = c0 at *
      have HS3 : Hid (runB c0 [s[j]] = stn 8 (c0 ^^^ ofB s[j])) := by rfl
      generalize c0 ^^^ ofB s[j] = c1 at *
      go_wp2
      go_loop [0, 6] (fun r k => ∃ m : Nat, m ≤ 8 ∧ k = .int .i64 m ∧ r = .int .i64 (vI (stn m c1))) (fun _ k => 8 - (intOf k).toNat)
      case atStart => exact ⟨0, by omega, rfl, rfl⟩
      case round =>
        obtain ⟨m, hm, rfl, rfl⟩ := hrel
        by_cases hm8 : m < 8
        · have HN : Hid _ := stn_succ m c1
          have hmod := mod_two (stn m c1)
          have hdiv := quo_two (stn m c1)
          have hX := xor64 (stn m c1 >>> 1) taps
          rw [show vI taps = 2197175160 from rfl] at hX
          have hn := vI_nonneg (stn m c1)
          generalize stn m c1 = c2 at *
          cases hb : c2.getLsbD 0
          · rw [hb] at hmod
            have HQ : Hid (c2 >>> 1 = st c2) := by show c2 >>> 1 = st c2; unfold st; rw [hb]; rfl
            go_wp2
            go_round
            case rel => exact ⟨m + 1, by omega, by go_num, by rw [HN.out, ← HQ.out, quo_two]⟩
            case measure => simp [intOf]; omega
          · rw [hb] at hmod
            have HQ : Hid (c2 >>> 1 ^^^ taps = st c2) := by show c2 >>> 1 ^^^ taps = st c2; unfold st; rw [hb]; rfl
            go_wp2
            go_round
            case rel => exact ⟨m + 1, by omega, by go_num, by rw [HN.out, ← HQ.out]⟩
            case measure => simp [intOf]; omega
        · have : m = 8 := by omega
          subst this
          go_wp2
          go_round
          case rel => exact ⟨j + 1, by omega, by go_num, by rw [HS2.out, HS.out, HS3.out]⟩
          case measure => simp [intOf]; omega
    · rw [List.take_of_length_le (by simp; omega)] at *
      go_wp2
      go_ret
      exact ⟨rfl, rfl⟩
theorem of_any (s : ByteArray) (w : World) (hs : s.size ≤ 281474976710656) :
    Calls Try.prog 11 #[.string s] w fun e w' => e = .returned (.int .i64 (vI (sumB s.data.toList))) ∧ w' = w := by
  have C1 : Hid (∀ w, Calls Try.prog 14 #[.int .i64 4294967295, .string s] w fun e w' => e = .returned (.int .i64 (vI (runB ones s.data.toList))) ∧ w' = w) :=
    fun w => run_any ones s w hs
  have hX : bits .xor .i64 (vI (runB ones s.data.toList)) 4294967295 = vI (sumB s.data.toList) := xor64 (runB ones s.data.toList) ones
  clear hs
  generalize runB ones s.data.toList = A at *
  generalize sumB s.data.toList = B at *
  go_enter Try.func11, Try.ntmps11
  go_wp2_with (go_at_call 14; refine (C1.out _).mono ?_; rintro e w1 ⟨rfl, rfl⟩)
  go_ret
  exact ⟨rfl, rfl⟩
theorem awake_any (w : World) :
    Calls Try.prog 12 #[] w fun e w' => e = .returned (.bool true) ∧ Below w.heap.size w w' := by
  have C1 : Hid (∀ w, Calls Try.prog 10 #[.string ⟨#[49, 50, 51, 52, 53, 54, 55, 56, 57]⟩] w fun e w' => e = .returned (.int .i64 3808858755) ∧ Below w.heap.size w w') := by
    intro w
    have := Sum_any ⟨#[49, 50, 51, 52, 53, 54, 55, 56, 57]⟩ w (by decide)
    rw [show (⟨#[49, 50, 51, 52, 53, 54, 55, 56, 57]⟩ : ByteArray).data.toList = [49, 50, 51, 52, 53, 54, 55, 56, 57] from rfl, sum_example] at this
    exact this
  go_enter Try.func12, Try.ntmps12
  go_wp2_with (go_at_call 10; refine (C1.out _).mono ?_; rintro e w1 ⟨rfl, hb1⟩)
  go_ret
  exact ⟨rfl, hb1⟩
def cutV (s : ByteArray) : ByteArray := if 3000 < s.size then s.extract 0 3000 else s
theorem cutV_size (s : ByteArray) : (cutV s).size ≤ 3000 := by
  unfold cutV
  split
  · rw [ByteArray.size_extract]; omega
  · omega
theorem cut_any (s : ByteArray) (w : World) (hs : s.size ≤ 281474976710656) :
    Calls Try.prog 9 #[.string s] w fun e w' => e = .returned (.string (cutV s)) ∧ w' = w := by
  by_cases h : 3000 < s.size
  · have HC : Hid (cutV s = s.extract 0 3000) := by show cutV s = _; unfold cutV; rw [if_pos h]
    go_enter Try.func9, Try.ntmps9
    go_wp2
    go_ret
    rw [HC.out]
    exact ⟨rfl, rfl⟩
  · have HC : Hid (cutV s = s) := by show cutV s = _; unfold cutV; rw [if_neg h]
    go_enter Try.func9, Try.ntmps9
    go_wp2
    go_ret
    rw [HC.out]
    exact ⟨rfl, rfl⟩
end Go.Proofs.Ytlgocioagndlbaa
