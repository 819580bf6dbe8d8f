/- The law's own register over a text, bit by bit; its sum; the example; the program's Sum. -/
import Derived.Test.YtakdfdnndogaiaaSmMore
namespace Go.Proofs.Ytakdfdnndogaiaa.Sm
open Go.RowKit
set_option linter.unusedVariables false
set_option linter.unusedSimpArgs false
set_option maxRecDepth 100000

theorem Sum_any (s : ByteArray) (w : World) (hs : s.size ≤ 281474976710656) :
    Calls Try.prog 28 #[.string s] w fun e w' => e = .returned (.int .i64 (vI (sumB s.data.toList))) ∧ Below w.heap.size w w' := by
  have C1 : Hid (∀ w, Calls Try.prog 40 #[.int .i64 0, .string s] w fun e w' => e = .returned (.int .i64 (vI (sumB s.data.toList))) ∧ Below w.heap.size w w') := by
    intro w
    have := More_any 0 s w hs
    rw [show BitVec.ofInt 32 0 = 0#32 from rfl, more_zero] at this
    exact this
  clear hs
  go_enter Try.func28, Try.ntmps28
  go_wp2_with (go_at_call 40; refine (C1.out _).mono ?_; rintro e w1 ⟨rfl, hb1⟩)
  go_ret
  exact ⟨rfl, hb1⟩

theorem ofB_wrap (b : UInt8) : wrap64 (b.toNat : Int) = vI (ofB b) := by
  rw [ofB_vI, wrap64_vI]
theorem quo_two (c : R) : wrap64 ((vI c).tdiv 2) = vI (c >>> 1) := by
  rw [Int.tdiv_eq_ediv_of_nonneg (vI_nonneg c), shr32, wrap64_vI]
theorem mod_two (c : R) : vI c % (2 : Int) = if c.getLsbD 0 then 1 else 0 := by
  unfold vI
  have : c.getLsbD 0 = decide (c.toNat % 2 = 1) := by
    rw [BitVec.getLsbD, Nat.testBit_zero]
  rw [this]
  by_cases h : c.toNat % 2 = 1
  · simp [h]; omega
  · simp [h]; omega
def cutV (s : ByteArray) : ByteArray := if 3000 < s.size then s.extract 0 3000 else s
theorem cutV_size (s : ByteArray) : (cutV s).size ≤ 3000 := by
  unfold cutV
  split
  · rw [ByteArray.size_extract]; omega
  · omega
end Go.Proofs.Ytakdfdnndogaiaa.Sm
