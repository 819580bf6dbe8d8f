/- The small callees of the layer sum, over registers as bit vectors. -/
import Derived.Test.YtlgocioagndlbaaProg
import Derived.Test.YtlgocioagndlbaaCrc
import Derived.WalkKit
import Derived.ProofKit
import Derived.WalkSpells
import Derived.WalkLawsBesides
import Derived.Deep.QuietTactic
import Derived.BigQuiet
namespace Go.Proofs.Ytlgocioagndlbaa
open Go.RowKit
set_option linter.unusedVariables false
set_option linter.unusedSimpArgs false
set_option maxRecDepth 100000

def vI (c : R) : Int := c.toNat
theorem vI_nonneg (c : R) : 0 ≤ vI c := Int.natCast_nonneg _
theorem vI_lt (c : R) : vI c < 4294967296 := by unfold vI; have := c.isLt; omega
theorem ofInt_vI (c : R) : BitVec.ofInt 32 (vI c) = c := by unfold vI; rw [BitVec.ofInt_natCast, BitVec.ofNat_toNat]; simp
theorem vI_inj {a b : R} (h : vI a = vI b) : a = b := by unfold vI at h; exact BitVec.eq_of_toNat_eq (by omega)
theorem vI_lit (n : Nat) (h : n < 4294967296) : vI (BitVec.ofNat 32 n) = n := by unfold vI; rw [BitVec.toNat_ofNat]; omega
theorem xor32 (a b : R) : bits .xor .u32 (vI a) (vI b) = vI (a ^^^ b) := by
  show IntKind.u32.wrap ((BitVec.ofInt 32 (vI a) ^^^ BitVec.ofInt 32 (vI b)).toNat : Int) = _
  rw [ofInt_vI, ofInt_vI, IntKind.wrap_u32]
  have := vI_lt (a ^^^ b)
  have := vI_nonneg (a ^^^ b)
  unfold vI at *
  omega
theorem and32 (a b : R) : bits .and .u32 (vI a) (vI b) = vI (a &&& b) := by
  show IntKind.u32.wrap ((BitVec.ofInt 32 (vI a) &&& BitVec.ofInt 32 (vI b)).toNat : Int) = _
  rw [ofInt_vI, ofInt_vI, IntKind.wrap_u32]
  have := vI_lt (a &&& b)
  have := vI_nonneg (a &&& b)
  unfold vI at *
  omega
theorem shr32 (c : R) : vI c / (2 : Int) = vI (c >>> 1) := by unfold vI; rw [BitVec.toNat_ushiftRight, Nat.shiftRight_eq_div_pow]; omega
theorem shr32_4 (c : R) : vI c / (16 : Int) = vI (c >>> 4) := by unfold vI; rw [BitVec.toNat_ushiftRight, Nat.shiftRight_eq_div_pow]; omega
theorem shl32 (c : R) : vI c * (2 : Int) % (4294967296 : Int) = vI (c <<< 1) := by unfold vI; rw [BitVec.toNat_shiftLeft, Nat.shiftLeft_eq]; omega
theorem vI_eq_zero (c : R) : vI c = 0 ↔ c = 0#32 := by
  constructor
  · intro h; exact vI_inj (h.trans (vI_lit 0 (by omega)).symm)
  · rintro rfl; rfl
theorem and_one (c : R) : c &&& 1#32 = if c.getLsbD 0 then 1#32 else 0#32 := by
  apply BitVec.eq_of_getLsbD_eq
  intro i hi
  rw [BitVec.getLsbD_and, BitVec.getLsbD_one]
  by_cases h : i = 0
  · subst h
    cases c.getLsbD 0 <;> simp
  · simp only [h, decide_false, Bool.and_false]
    split
    · rw [BitVec.getLsbD_one]; simp [h]
    · simp
theorem and_top (c : R) : c &&& one = if c.msb then one else 0#32 := by
  have e : one = 1#32 <<< 31 := by decide
  rw [e]
  apply BitVec.eq_of_getLsbD_eq
  intro i hi
  rw [BitVec.msb_eq_getLsbD_last, BitVec.getLsbD_and]
  have e2 : (1#32 <<< 31 : R).getLsbD i = decide (i = 31) := by
    have : ∀ j : Fin 32, (1#32 <<< 31 : R).getLsbD j.val = decide (j.val = 31) := by decide
    exact this ⟨i, hi⟩
  rw [e2]
  by_cases h : i = 31
  · subst h
    show _ = (if c.getLsbD 31 = true then _ else _ : R).getLsbD 31
    cases hc : c.getLsbD 31
    · rfl
    · simp [e2]
  · simp only [h, decide_false, Bool.and_false]
    split
    · rw [e2]; simp [h]
    · simp
theorem odd_test (c : R) (h : c.getLsbD 0 = true) : (bits .and .u32 (vI c) 1 == 0) = false := by
  have : (1 : Int) = vI 1#32 := rfl
  rw [this, and32, and_one, h]
  rfl
theorem even_test (c : R) (h : c.getLsbD 0 = false) : (bits .and .u32 (vI c) 1 == 0) = true := by
  have : (1 : Int) = vI 1#32 := rfl
  rw [this, and32, and_one, h]
  rfl
theorem top_test (c : R) : (bits .and .u32 (vI c) 2147483648 != 0) = c.msb := by
  have : (2147483648 : Int) = vI one := rfl
  rw [this, and32, and_top]
  cases c.msb <;> rfl
theorem zero_test (c : R) : (vI c != 0) = !(c == 0#32) := by
  by_cases h : c = 0#32
  · subst h; rfl
  · have h1 : vI c ≠ 0 := fun e => h ((vI_eq_zero c).mp e)
    rw [bne, beq_eq_false_iff_ne.mpr h1, beq_eq_false_iff_ne.mpr h]

theorem shift_any (c : R) (w : World) :
    Calls Try.prog 29 #[.int .u32 (vI c)] w fun e w' => e = .returned (.int .u32 (vI (st c))) ∧ w' = w := by
  cases h : c.getLsbD 0
  · have h1 := even_test c h
    have e1 : Hid _ := shr32 c
    have e2 : Hid (st c = c >>> 1) := by show st c = _; unfold st; rw [h]; rfl
    clear h
    go_enter Try.func29, Try.ntmps29
    go_wp2
    go_ret
    rw [e1.out, e2.out]
    exact ⟨rfl, rfl⟩
  · have h1 := odd_test c h
    have e1 : Hid _ := shr32 c
    have e2 : Hid (st c = c >>> 1 ^^^ taps) := by show st c = _; unfold st; rw [h]; rfl
    have e3 : Hid _ := xor32 (c >>> 1) taps
    clear h
    go_enter Try.func29, Try.ntmps29
    go_wp2
    go_ret
    rw [e1.out, e2.out, ← e3.out]
    exact ⟨rfl, rfl⟩
theorem isSum_any (n : Int) (w : World) :
    Calls Try.prog 20 #[.int .i64 n] w fun e w' => e = .returned (.bool (decide (0 ≤ n) && decide (n ≤ 4294967295))) ∧ w' = w := by
  by_cases h1 : 0 ≤ n
  · have h1' : decide (0 ≤ n) = true := by simpa using h1
    go_enter Try.func20, Try.ntmps20
    go_wp2
    go_ret
    exact ⟨by simp [h1], rfl⟩
  · have h1' : decide (0 ≤ n) = false := by simpa using h1
    go_enter Try.func20, Try.ntmps20
    go_wp2
    go_ret
    exact ⟨by simp, rfl⟩

theorem product_any (a b : R) (w : World) :
    Calls Try.prog 21 #[.int .u32 (vI a), .int .u32 (vI b)] w fun e w' => e = .returned (.int .u32 (vI (mul a b))) ∧ w' = w := by
  go_enter Try.func21, Try.ntmps21
  go_wp2
  go_loop [0, 1, 5] (fun x y z => ∃ (k : Nat) (a' b' all : R), x = .int .u32 (vI a') ∧ y = .int .u32 (vI b') ∧ z = .int .u32 (vI all) ∧ all ^^^ mulK k a' b' = mul a b ∧ b' <<< k = 0#32) (fun _ y _ => rounds 32 (BitVec.ofInt 32 (intOf y)))
  case atStart => exact ⟨32, a, b, 0#32, rfl, rfl, rfl, by simp [mul], by simp⟩
  case round =>
    obtain ⟨k, a', b', all, rfl, rfl, rfl, he, hz⟩ := hrel
    by_cases h0 : b' = 0#32
    · have h1 : (vI b' != 0) = false := by rw [zero_test]; simp [h0]
      have e1 : Hid (all = mul a b) := by
        have := mulK_zero k a'
        subst h0
        rw [this] at he
        exact (by simpa using he : all = mul a b)
      clear he hz h0
      go_wp2
      go_ret
      rw [e1.out]
      exact ⟨rfl, rfl⟩
    · have h1 : (vI b' != 0) = true := by rw [zero_test]; simp [h0]
      have hr := rounds_step b' h0
      obtain ⟨k, rfl⟩ : ∃ j, k = j + 1 := by
        cases k with
        | zero => exact absurd (by simpa using hz) h0
        | succ j => exact ⟨j, rfl⟩
      have hz' : (b' <<< 1) <<< k = 0#32 := by rw [← BitVec.shiftLeft_add, Nat.add_comm]; exact hz
      have he' : all ^^^ ((if b'.msb then a' else 0#32) ^^^ mulK k (st a') (b' <<< 1)) = mul a b := he
      have HS : Hid _ := shl32 b'
      have HX : Hid _ := xor32 all a'
      have HR : Hid _ := hr
      have HZ : Hid _ := hz'
      have h3 := top_test b'
      cases h2 : b'.msb
      · rw [h2] at h3 he'
        have HE : Hid (all ^^^ mulK k (st a') (b' <<< 1) = mul a b) := (by simpa using he' : all ^^^ mulK k (st a') (b' <<< 1) = mul a b)
        clear he' he hz hz' hr h2 h0
        go_wp2_with (go_at_call 29; refine (shift_any _ _).mono ?_; rintro e w' ⟨rfl, rfl⟩)
        go_round
        case rel => exact ⟨k, st a', b' <<< 1, all, rfl, by rw [HS.out], rfl, HE.out, HZ.out⟩
        case measure => rw [HS.out]; simp only [intOf, ofInt_vI]; exact HR.out
      · rw [h2] at h3 he'
        have HE : Hid ((all ^^^ a') ^^^ mulK k (st a') (b' <<< 1) = mul a b) := (by rw [BitVec.xor_assoc]; exact he' : (all ^^^ a') ^^^ mulK k (st a') (b' <<< 1) = mul a b)
        clear he' he hz hz' hr h2 h0
        go_wp2_with (go_at_call 29; refine (shift_any _ _).mono ?_; rintro e w' ⟨rfl, rfl⟩)
        go_round
        case rel => exact ⟨k, st a', b' <<< 1, all ^^^ a', rfl, by rw [HS.out], by rw [HX.out], HE.out, HZ.out⟩
        case measure => rw [HS.out]; simp only [intOf, ofInt_vI]; exact HR.out
theorem ofInt64 (a : Nat) (ha : a < 18446744073709551616) : (BitVec.ofInt 64 (a : Int)).toNat = a := by
  rw [BitVec.ofInt_natCast, BitVec.toNat_ofNat]
  exact Nat.mod_eq_of_lt (by omega)
theorem and64_one (m : Int) (h0 : 0 ≤ m) (h1 : m < 9223372036854775808) : bits .and .i64 m 1 = m % 2 := by
  obtain ⟨a, rfl⟩ := Int.eq_ofNat_of_zero_le h0
  show IntKind.i64.wrap ((BitVec.ofInt 64 (a : Int) &&& BitVec.ofInt 64 ((1 : Nat) : Int)).toNat : Int) = _
  rw [BitVec.toNat_and, ofInt64 a (by omega), ofInt64 1 (by omega), Nat.and_one_is_mod, IntKind.wrap_i64]
  omega
theorem powerOfZeros_any (n : Int) (w : World) (h0 : 0 ≤ n) (hn : n < 9223372036854775808) :
    Calls Try.prog 22 #[.int .i64 n] w fun e w' => e = .returned (.int .u32 (vI (pow (8 * n.toNat)))) ∧ w' = w := by
  have HN : Hid _ := hn
  have H0 : Hid _ := h0
  clear hn h0
  go_enter Try.func22, Try.ntmps22
  go_wp2
  go_loop [0, 3, 4] (fun x y z => ∃ (m : Int) (i j : Nat), x = .int .i64 m ∧ y = .int .u32 (vI (pow (8 * i))) ∧ z = .int .u32 (vI (pow (8 * j))) ∧ i + j * m.toNat = n.toNat ∧ 0 ≤ m ∧ m ≤ n) (fun x _ _ => (intOf x).toNat)
  case atStart => exact ⟨n, 0, 1, rfl, rfl, rfl, by omega, H0.out, Int.le_refl _⟩
  case round =>
    obtain ⟨m, i, j, rfl, rfl, rfl, he, hm0, hm⟩ := hrel
    by_cases h0 : 0 < m
    · have ht := and64_one m hm0 (Int.lt_of_le_of_lt hm HN.out)
      have hd : decide (0 < m) = true := by simpa using h0
      have C1 : Hid (∀ i j w, Calls Try.prog 21 #[.int .u32 (vI (pow (8 * i))), .int .u32 (vI (pow (8 * j)))] w fun e w' => e = .returned (.int .u32 (vI (pow (8 * (i + j))))) ∧ w' = w) := by
        intro i j w
        have := product_any (pow (8 * i)) (pow (8 * j)) w
        rw [pow_mul, ← Nat.mul_add] at this
        exact this
      have e2 : m.toNat = 2 * (m / 2).toNat + (m % 2).toNat := by omega
      have H1 : Hid (0 ≤ m / 2 ∧ m / 2 ≤ n) := ⟨by omega, by omega⟩
      have H2 : Hid ((m / 2).toNat < m.toNat) := by show (m / 2).toNat < m.toNat; omega
      by_cases h2 : m % 2 = 1
      · have hb : (bits .and .i64 m 1 == 1) = true := by rw [ht, h2]; rfl
        have HE : Hid (i + j + (j + j) * (m / 2).toNat = n.toNat) := by
          show i + j + (j + j) * (m / 2).toNat = n.toNat
          rw [← he, e2, h2, Nat.mul_add, ← Nat.mul_assoc, Nat.mul_comm j 2, Nat.two_mul]
          simp
          omega
        clear he ht h0 h2 e2 hm hm0
        go_wp2_with (go_at_call 21; refine (C1.out _ _ _).mono ?_; rintro e w' ⟨rfl, rfl⟩)
        go_round
        case rel => exact ⟨m / 2, i + j, j + j, rfl, rfl, rfl, HE.out, H1.out.1, H1.out.2⟩
        case measure => simp only [intOf]; exact H2.out
      · have hb : (bits .and .i64 m 1 == 1) = false := by rw [ht]; simpa using h2
        have HE : Hid (i + (j + j) * (m / 2).toNat = n.toNat) := by
          show i + (j + j) * (m / 2).toNat = n.toNat
          have h3 : m % 2 = 0 := by omega
          rw [← he, e2, h3, Nat.mul_add, ← Nat.mul_assoc, Nat.mul_comm j 2, Nat.two_mul]
          simp
        clear he ht h0 h2 e2 hm hm0
        go_wp2_with (go_at_call 21; refine (C1.out _ _ _).mono ?_; rintro e w' ⟨rfl, rfl⟩)
        go_round
        case rel => exact ⟨m / 2, i, j + j, rfl, rfl, rfl, HE.out, H1.out.1, H1.out.2⟩
        case measure => simp only [intOf]; exact H2.out
    · have hd : decide (0 < m) = false := by simpa using h0
      have HE : Hid (i = n.toNat) := by
        show i = n.toNat
        have : m = 0 := by omega
        subst this
        simpa using he
      clear he h0 hm hm0
      go_wp2
      go_ret
      rw [HE.out]
      exact ⟨rfl, rfl⟩
theorem xor64 (a b : R) : bits .xor .i64 (vI a) (vI b) = vI (a ^^^ b) := by
  have ha := a.isLt
  have hb := b.isLt
  have hx := (a ^^^ b).isLt
  unfold vI
  show IntKind.i64.wrap ((BitVec.ofInt 64 (a.toNat : Int) ^^^ BitVec.ofInt 64 (b.toNat : Int)).toNat : Int) = _
  rw [BitVec.toNat_xor, ofInt64 _ (by omega), ofInt64 _ (by omega), ← BitVec.toNat_xor, IntKind.wrap_i64]
  omega
theorem wrap64_vI (c : R) : wrap64 (vI c) = vI c := by
  have h1 := vI_nonneg c
  have h2 := vI_lt c
  unfold wrap64
  omega
theorem isSum_vI (a : R) (w : World) : Calls Try.prog 20 #[.int .i64 (vI a)] w fun e w' => e = .returned (.bool true) ∧ w' = w := by
  have := isSum_any (vI a) w
  have h1 := vI_nonneg a
  have h2 := vI_lt a
  have e : (decide (0 ≤ vI a) && decide (vI a ≤ 4294967295)) = true := by simp; omega
  rw [e] at this
  exact this
def isS (n : Int) : Bool := decide (0 ≤ n) && decide (n ≤ 4294967295)
theorem isSum_isS (n : Int) (w : World) : Calls Try.prog 20 #[.int .i64 n] w fun e w' => e = .returned (.bool (isS n)) ∧ w' = w := isSum_any n w
theorem isS_vI (a : R) : isS (vI a) = true := by
  have h1 := vI_nonneg a
  have h2 := vI_lt a
  unfold isS
  simp
  omega
theorem join_fits (a b : R) (n : Int) (w : World) (h0 : 0 ≤ n) (hn : n < 9223372036854775808) :
    Calls Try.prog 15 #[.int .i64 (vI a), .int .i64 (vI b), .int .i64 n] w fun e w' => e = .returned (.tuple #[.int .i64 (vI (stn (8 * n.toNat) a ^^^ b)), .int .i64 0]) ∧ w' = w := by
  have C3 : Hid (∀ w, _) := fun w => powerOfZeros_any n w h0 hn
  have C4 : Hid (∀ w, Calls Try.prog 21 #[.int .u32 (vI a), .int .u32 (vI (pow (8 * n.toNat)))] w fun e w' => e = .returned (.int .u32 (vI (stn (8 * n.toNat) a))) ∧ w' = w) := by
    intro w
    have := product_any a (pow (8 * n.toNat)) w
    rw [mul_pow] at this
    exact this
  have HX : Hid _ := xor64 (stn (8 * n.toNat) a) b
  have hd : decide (n < 0) = false := by simpa using h0
  have e1 : vI a % 4294967296 = vI a := by have := vI_lt a; have := vI_nonneg a; omega
  have i1 := isS_vI a
  have i2 := isS_vI b
  clear h0 hn
  generalize stn (8 * n.toNat) a = A at *
  generalize pow (8 * n.toNat) = B at *
  go_enter Try.func15, Try.ntmps15
  go_wp2_with (first | (go_at_call 20; refine (isSum_isS _ _).mono ?_; rintro e w' ⟨rfl, rfl⟩) | (go_at_call 22; refine (C3.out _).mono ?_; rintro e w' ⟨rfl, rfl⟩) | (go_at_call 21; refine (C4.out _).mono ?_; rintro e w' ⟨rfl, rfl⟩))
  go_ret2
  rw [wrap64_vI, HX.out]
  exact ⟨rfl, rfl⟩
theorem join_bad (a b n : Int) (w : World) (h : a < 0 ∨ 4294967295 < a ∨ b < 0 ∨ 4294967295 < b ∨ n < 0) :
    Calls Try.prog 15 #[.int .i64 a, .int .i64 b, .int .i64 n] w fun e w' => e = .returned (.tuple #[.int .i64 0, .int .i64 1]) ∧ w' = w := by
  cases hp : isS a
  · clear h
    go_enter Try.func15, Try.ntmps15
    go_wp2_with (first | (go_at_call 20; refine (isSum_isS _ _).mono ?_; rintro e w' ⟨rfl, rfl⟩))
    go_ret2
    exact ⟨rfl, rfl⟩
  · cases hq : isS b
    · clear h
      go_enter Try.func15, Try.ntmps15
      go_wp2_with (first | (go_at_call 20; refine (isSum_isS _ _).mono ?_; rintro e w' ⟨rfl, rfl⟩))
      go_ret2
      exact ⟨rfl, rfl⟩
    · have hd : decide (n < 0) = true := by simp [isS] at hp hq ⊢; omega
      clear h
      go_enter Try.func15, Try.ntmps15
      go_wp2_with (first | (go_at_call 20; refine (isSum_isS _ _).mono ?_; rintro e w' ⟨rfl, rfl⟩))
      go_ret2
      exact ⟨rfl, rfl⟩
end Go.Proofs.Ytlgocioagndlbaa
