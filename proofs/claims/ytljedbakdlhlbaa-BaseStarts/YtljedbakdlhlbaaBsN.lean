/- The law's own numbers and bytes of a base. -/
import Derived.Test.YtljedbakdlhlbaaBsMem
namespace Go.Proofs.Ytljedbakdlhlbaa
open Go.RowKit
set_option linter.unusedVariables false
set_option linter.unusedSimpArgs false
set_option maxRecDepth 100000

theorem and_255 (q : Nat) (h : q ≤ 9223372036854775807) : bits BinOp.and IntKind.i64 (q : Int) 255 = ((q % 256 : Nat) : Int) := by
  show IntKind.i64.wrap ((BitVec.ofInt 64 (q : Int) &&& BitVec.ofInt 64 ((255 : Nat) : Int)).toNat : Int) = _
  rw [BitVec.toNat_and, ofInt_u64 q (by omega), ofInt_u64 255 (by omega), show 255 = 2 ^ 8 - 1 from rfl, Nat.and_two_pow_sub_one_eq_mod, IntKind.wrap_i64]
  omega
set_option maxHeartbeats 1000000 in
theorem number_pos (n k : Nat) (w : World) (h6 : k ≤ 6) (hn : n ≤ 9223372036854775807) :
    Calls Try.prog 22 #[.int .i64 n, .int .i64 k] w fun e w' => e = .returned (.tuple #[.string (Pk.beS n k), .bool (((n / 256 ^ k : Nat) : Int) == 0)]) ∧ Below w.heap.size w w' := by
  have hcv := Pk.cv_one
  go_enter Try.func22, Try.ntmps22
  go_wp2
  go_loopw [0, 6, 7] (fun m s i w' => ∃ j q : Nat, j ≤ k ∧ i = .int .i64 j ∧ Hid (q = n / 256 ^ j) ∧ q ≤ 9223372036854775807 ∧ m = .int .i64 q ∧ s = .string (Pk.beS n j) ∧ Below w.heap.size w w') (fun _ _ i _ => k - (intOf i).toNat)
  case atStart => exact ⟨0, n, Nat.zero_le _, rfl, by simp [Hid], hn, rfl, rfl, Below.refl _ _⟩
  case round =>
    obtain ⟨j, q, hj, rfl, hq, hq2, rfl, rfl, hb⟩ := hrel
    have hsz : (Pk.beS n j).size ≤ 6 := by rw [Pk.beS_size]; omega
    by_cases hlt : j < k
    · go_wp2
      go_roundw
      case rel =>
        refine ⟨j + 1, q / 256, by omega, by go_num, ?_, by omega, by go_num, ?_, hb.alloc hb.size _⟩
        · show q / 256 = _
          rw [hq.out, Nat.div_div_eq_div_mul, ← Nat.pow_succ]
        · have e : (((q % 256 : Nat) : Int) % 256).toNat = q % 256 := by omega
          rw [and_255 q hq2, Pk.beS_succ, ← hq.out, e]
      case measure => simp [intOf]; omega
    · go_wp2
      go_ret2
      have : j = k := by omega
      subst this
      rw [← hq.out]
      exact ⟨rfl, hb⟩
set_option maxHeartbeats 1000000 in
theorem number_neg (n : Int) (k : Nat) (w : World) (h6 : k ≤ 6) (hn : n < 0) (hn2 : -9223372036854775808 ≤ n) :
    Calls Try.prog 22 #[.int .i64 n, .int .i64 k] w fun e w' => ∃ t : ByteArray, e = .returned (.tuple #[.string t, .bool false]) ∧ t.size = k ∧ Below w.heap.size w w' := by
  have hcv := Pk.cv_one
  go_enter Try.func22, Try.ntmps22
  go_wp2
  go_loopw [0, 6, 7] (fun m s i w' => ∃ (j : Nat) (q : Int) (t : ByteArray), j ≤ k ∧ i = .int .i64 j ∧ q < 0 ∧ -9223372036854775808 ≤ q ∧ m = .int .i64 q ∧ s = .string t ∧ t.size = j ∧ Below w.heap.size w w') (fun _ _ i _ => k - (intOf i).toNat)
  case atStart => exact ⟨0, n, ⟨#[]⟩, Nat.zero_le _, rfl, hn, hn2, rfl, rfl, rfl, Below.refl _ _⟩
  case round =>
    obtain ⟨j, q, t, hj, rfl, hq, hq2, rfl, rfl, ht, hb⟩ := hrel
    by_cases hlt : j < k
    · go_wp2
      go_roundw
      case rel =>
        refine ⟨j + 1, q / 256, _, by omega, by go_num, by omega, by omega, ?_, rfl, ?_, hb.alloc hb.size _⟩
        · go_num
        · rw [ByteArray.size_append, ht]; exact Nat.add_comm _ _
      case measure => simp [intOf]; omega
    · have hq0 : (q == 0) = false := by simp; omega
      go_wp2
      go_ret2
      have : j = k := by omega
      subst this
      exact ⟨t, rfl, ht, hb⟩
/-- What the law's number gives, of any number. -/
structure Num9 (n : Int) (k : Nat) (t : ByteArray) (b : Bool) : Prop where
  size : t.size = k
  fits : Room n k → t = Pk.beS n.toNat k
  ok : (b && decide (0 ≤ n)) = true ↔ Room n k
theorem room_nat_iff (n k : Nat) : Room (n : Int) k ↔ n / 256 ^ k = 0 := by
  unfold Room
  rw [Pk.limI_nat, Nat.div_eq_zero_iff]
  have : 0 < 256 ^ k := Nat.pow_pos (by decide)
  omega
theorem number_any (n : Int) (k : Nat) (w : World) (h6 : k ≤ 6) (h1 : -9223372036854775808 ≤ n) (h2 : n ≤ 9223372036854775807) (kk : Int) (hk : kk = (k : Int)) :
    Calls Try.prog 22 #[.int .i64 n, .int .i64 kk] w fun e w' => ∃ t b, e = .returned (.tuple #[.string t, .bool b]) ∧ Num9 n k t b ∧ Below w.heap.size w w' := by
  subst hk
  by_cases h : n < 0
  · refine (number_neg n k w h6 h h1).mono ?_
    rintro e w' ⟨t, rfl, ht, hb⟩
    refine ⟨t, false, rfl, ⟨ht, fun r => absurd r.1 (by omega), ?_⟩, hb⟩
    exact ⟨fun e => by simp at e, fun r => absurd r.1 (by omega)⟩
  · obtain ⟨m, rfl⟩ : ∃ m : Nat, n = m := ⟨n.toNat, by omega⟩
    refine (number_pos m k w h6 (by omega)).mono ?_
    rintro e w' ⟨rfl, hb⟩
    refine ⟨_, _, rfl, ⟨Pk.beS_size _ _, fun _ => by rw [Int.toNat_natCast], ?_⟩, hb⟩
    rw [room_nat_iff m k, Bool.and_eq_true, beq_iff_eq, decide_eq_true_eq]
    omega
end Go.Proofs.Ytljedbakdlhlbaa
