/- What was laid is read again: lemmas on bytes alone, and on what a writer and a row of items keep. -/
import Derived.Test.YtljedbakdlhlbaaPkRdN
namespace Go.Proofs.Ytljedbakdlhlbaa.Pk
open Go.RowKit
set_option linter.unusedVariables false
set_option maxRecDepth 100000
set_option linter.unusedSimpArgs false

theorem append_nil (s : ByteArray) : s ++ (⟨#[]⟩ : ByteArray) = s := by apply ByteArray.ext; simp [ByteArray.data_append]

theorem beN_be (k : Nat) (n : Nat) (h : n < 256 ^ k) : beN (be n k) = n := by
  have key : ∀ (k a : Nat), (be n k).foldl (fun a b => 256 * a + b.toNat) a = a * 256 ^ k + n % 256 ^ k := by
    intro k
    induction k with
    | zero => intro a; simp [be, Nat.mod_one]
    | succ k ih =>
      intro a
      rw [be, List.foldl_cons, ih]
      have hb : (UInt8.ofNat (n / 256 ^ k % 256)).toNat = n / 256 ^ k % 256 := by simp
      rw [hb, Nat.pow_succ, Nat.mod_mul]
      rw [Nat.add_mul, Nat.mul_comm 256 a, Nat.mul_assoc, Nat.mul_comm 256 (256 ^ k), Nat.mul_comm (n / 256 ^ k % 256) (256 ^ k)]
      omega
  unfold beN
  rw [key k 0, Nat.mod_eq_of_lt h]
  omega

theorem limI_nat (k : Nat) : limI k = ((256 ^ k : Nat) : Int) := by simp [limI]

theorem extract_left (a b : ByteArray) : (a ++ b).extract 0 a.size = a := by
  apply ByteArray.ext
  simp [ByteArray.data_extract, ByteArray.data_append]

theorem extract_right (a b : ByteArray) : (a ++ b).extract a.size (a ++ b).size = b := by
  apply ByteArray.ext
  simp [ByteArray.data_extract, ByteArray.data_append]
  have e1 : a.data.extract a.size (a.size + b.size) = #[] := by
    apply Array.eq_empty_of_size_eq_zero
    rw [Array.size_extract, show a.size = a.data.size from rfl]
    omega
  have e2 : b.data.extract 0 b.size = b.data := by
    rw [show b.size = b.data.size from rfl]
    simp
  rw [e1, e2]
  simp

theorem rdRaw_app (a b : ByteArray) : rdRaw (a ++ b) 0 a.size = (a, b, 0) := by
  rw [rdRaw_fits (by omega) (by rw [ByteArray.size_append]; omega), Int.toNat_natCast, extract_left, extract_right]

theorem rdNum_app (n k : Nat) (b : ByteArray) (h1 : 1 ≤ k) (h6 : k ≤ 6) (hn : n < 256 ^ k) : rdNum (beS n k ++ b) 0 k = (n, b, 0) := by
  unfold rdNum rdNumSt
  rw [if_neg (by omega)]
  have h := rdRaw_app (beS n k) b
  rw [beS_size] at h
  rw [h]
  show (beN (be n k), _) = _
  rw [beN_be k n hn]

theorem rdText_app (t b : ByteArray) (h : t.size ≤ 65535) : rdText (beS t.size 2 ++ t ++ b) 0 65535 = (t, b, 0) := by
  have h2 := rdNum_app t.size 2 (t ++ b) (by omega) (by omega) (by have : 256 ^ 2 = 65536 := by decide
                                                                   omega)
  rw [← ByteArray.append_assoc] at h2
  unfold rdText rdTextSt
  rw [show ((2 : Nat) : Int) = 2 from rfl] at h2
  rw [h2]
  dsimp only
  rw [if_neg (by omega)]
  exact rdRaw_app t b
end Go.Proofs.Ytljedbakdlhlbaa.Pk
