/- The small callees of the layer sum, over registers as bit vectors. -/
import Derived.Test.YtakdfdnndogaiaaProg
import Derived.Test.YtakdfdnndogaiaaSmCrc
import Derived.WalkKit
import Derived.ProofKit
import Derived.WalkSpells
import Derived.WalkLawsBesides
import Derived.Deep.QuietTactic
import Derived.BigQuiet
namespace Go.Proofs.Ytakdfdnndogaiaa.Sm
open Go.RowKit
set_option linter.unusedVariables false
set_option linter.unusedSimpArgs false
set_option maxRecDepth 100000

def vI (c : R) : Int := c.toNat
theorem vI_nonneg (c : R) : 0 ≤ vI c := Int.natCast_nonneg _
theorem vI_lt (c : R) : vI c < 4294967296 := by unfold vI; have := c.isLt; omega
theorem ofInt_vI (c : R) : BitVec.ofInt 32 (vI c) = c := by unfold vI; rw [BitVec.ofInt_natCast, BitVec.ofNat_toNat]; simp
theorem vI_inj {a b : R} (h : vI a = vI b) : a = b := by unfold vI at h; exact BitVec.eq_of_toNat_eq (by omega)
theorem vI_lit (n : Nat) (h : n < 4294967296) : vI (BitVec.ofNat 32 n) = n := by unfold vI; rw [BitVec.toNat_ofNat]; omega
theorem xor32 (a b : R) : bits .xor .u32 (vI a) (vI b) = vI (a ^^^ b) := by
  show IntKind.u32.wrap ((BitVec.ofInt 32 (vI a) ^^^ BitVec.ofInt 32 (vI b)).toNat : Int) = _
  rw [ofInt_vI, ofInt_vI, IntKind.wrap_u32]
  have := vI_lt (a ^^^ b)
  have := vI_nonneg (a ^^^ b)
  unfold vI at *
  omega
theorem and32 (a b : R) : bits .and .u32 (vI a) (vI b) = vI (a &&& b) := by
  show IntKind.u32.wrap ((BitVec.ofInt 32 (vI a) &&& BitVec.ofInt 32 (vI b)).toNat : Int) = _
  rw [ofInt_vI, ofInt_vI, IntKind.wrap_u32]
  have := vI_lt (a &&& b)
  have := vI_nonneg (a &&& b)
  unfold vI at *
  omega
theorem shr32 (c : R) : vI c / (2 : Int) = vI (c >>> 1) := by unfold vI; rw [BitVec.toNat_ushiftRight, Nat.shiftRight_eq_div_pow]; omega
theorem shr32_4 (c : R) : vI c / (16 : Int) = vI (c >>> 4) := by unfold vI; rw [BitVec.toNat_ushiftRight, Nat.shiftRight_eq_div_pow]; omega
theorem shl32 (c : R) : vI c * (2 : Int) % (4294967296 : Int) = vI (c <<< 1) := by unfold vI; rw [BitVec.toNat_shiftLeft, Nat.shiftLeft_eq]; omega
theorem vI_eq_zero (c : R) : vI c = 0 ↔ c = 0#32 := by
  constructor
  · intro h; exact vI_inj (h.trans (vI_lit 0 (by omega)).symm)
  · rintro rfl; rfl
theorem and_one (c : R) : c &&& 1#32 = if c.getLsbD 0 then 1#32 else 0#32 := by
  apply BitVec.eq_of_getLsbD_eq
  intro i hi
  rw [BitVec.getLsbD_and, BitVec.getLsbD_one]
  by_cases h : i = 0
  · subst h
    cases c.getLsbD 0 <;> simp
  · simp only [h, decide_false, Bool.and_false]
    split
    · rw [BitVec.getLsbD_one]; simp [h]
    · simp
theorem and_top (c : R) : c &&& one = if c.msb then one else 0#32 := by
  have e : one = 1#32 <<< 31 := by decide
  rw [e]
  apply BitVec.eq_of_getLsbD_eq
  intro i hi
  rw [BitVec.msb_eq_getLsbD_last, BitVec.getLsbD_and]
  have e2 : (1#32 <<< 31 : R).getLsbD i = decide (i = 31) := by
    have : ∀ j : Fin 32, (1#32 <<< 31 : R).getLsbD j.val = decide (j.val = 31) := by decide
    exact this ⟨i, hi⟩
  rw [e2]
  by_cases h : i = 31
  · subst h
    show _ = (if c.getLsbD 31 = true then _ else _ : R).getLsbD 31
    cases hc : c.getLsbD 31
    · rfl
    · simp [e2]
  · simp only [h, decide_false, Bool.and_false]
    split
    · rw [e2]; simp [h]
    · simp
theorem odd_test (c : R) (h : c.getLsbD 0 = true) : (bits .and .u32 (vI c) 1 == 0) = false := by
  have : (1 : Int) = vI 1#32 := rfl
  rw [this, and32, and_one, h]
  rfl
theorem even_test (c : R) (h : c.getLsbD 0 = false) : (bits .and .u32 (vI c) 1 == 0) = true := by
  have : (1 : Int) = vI 1#32 := rfl
  rw [this, and32, and_one, h]
  rfl
theorem top_test (c : R) : (bits .and .u32 (vI c) 2147483648 != 0) = c.msb := by
  have : (2147483648 : Int) = vI one := rfl
  rw [this, and32, and_top]
  cases c.msb <;> rfl
theorem zero_test (c : R) : (vI c != 0) = !(c == 0#32) := by
  by_cases h : c = 0#32
  · subst h; rfl
  · have h1 : vI c ≠ 0 := fun e => h ((vI_eq_zero c).mp e)
    rw [bne, beq_eq_false_iff_ne.mpr h1, beq_eq_false_iff_ne.mpr h]

theorem shift_any (c : R) (w : World) :
    Calls Try.prog 69 #[.int .u32 (vI c)] w fun e w' => e = .returned (.int .u32 (vI (st c))) ∧ w' = w := by
  cases h : c.getLsbD 0
  · have h1 := even_test c h
    have e1 : Hid _ := shr32 c
    have e2 : Hid (st c = c >>> 1) := by show st c = _; unfold st; rw [h]; rfl
    clear h
    go_enter Try.func69, Try.ntmps69
    go_wp2
    go_ret
    rw [e1.out, e2.out]
    exact ⟨rfl, rfl⟩
  · have h1 := odd_test c h
    have e1 : Hid _ := shr32 c
    have e2 : Hid (st c = c >>> 1 ^^^ taps) := by show st c = _; unfold st; rw [h]; rfl
    have e3 : Hid _ := xor32 (c >>> 1) taps
    clear h
    go_enter Try.func69, Try.ntmps69
    go_wp2
    go_ret
    rw [e1.out, e2.out, ← e3.out]
    exact ⟨rfl, rfl⟩
theorem ofInt64 (a : Nat) (ha : a < 18446744073709551616) : (BitVec.ofInt 64 (a : Int)).toNat = a := by
  rw [BitVec.ofInt_natCast, BitVec.toNat_ofNat]
  exact Nat.mod_eq_of_lt (by omega)
theorem and64_one (m : Int) (h0 : 0 ≤ m) (h1 : m < 9223372036854775808) : bits .and .i64 m 1 = m % 2 := by
  obtain ⟨a, rfl⟩ := Int.eq_ofNat_of_zero_le h0
  show IntKind.i64.wrap ((BitVec.ofInt 64 (a : Int) &&& BitVec.ofInt 64 ((1 : Nat) : Int)).toNat : Int) = _
  rw [BitVec.toNat_and, ofInt64 a (by omega), ofInt64 1 (by omega), Nat.and_one_is_mod, IntKind.wrap_i64]
  omega
theorem xor64 (a b : R) : bits .xor .i64 (vI a) (vI b) = vI (a ^^^ b) := by
  have ha := a.isLt
  have hb := b.isLt
  have hx := (a ^^^ b).isLt
  unfold vI
  show IntKind.i64.wrap ((BitVec.ofInt 64 (a.toNat : Int) ^^^ BitVec.ofInt 64 (b.toNat : Int)).toNat : Int) = _
  rw [BitVec.toNat_xor, ofInt64 _ (by omega), ofInt64 _ (by omega), ← BitVec.toNat_xor, IntKind.wrap_i64]
  omega
theorem wrap64_vI (c : R) : wrap64 (vI c) = vI c := by
  have h1 := vI_nonneg c
  have h2 := vI_lt c
  unfold wrap64
  omega
def isS (n : Int) : Bool := decide (0 ≤ n) && decide (n ≤ 4294967295)
theorem isS_vI (a : R) : isS (vI a) = true := by
  have h1 := vI_nonneg a
  have h2 := vI_lt a
  unfold isS
  simp
  omega
end Go.Proofs.Ytakdfdnndogaiaa.Sm
