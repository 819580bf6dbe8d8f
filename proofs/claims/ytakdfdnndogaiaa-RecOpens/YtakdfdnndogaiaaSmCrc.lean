/- The plain mathematics of the sum: a register of 32 bits as a bit vector, its steps, that they are linear, the product of two registers, and what a burst of bits does. No condition. -/
import Derived.WalkKit
namespace Go.Proofs.Ytakdfdnndogaiaa.Sm
set_option linter.unusedVariables false
set_option linter.unusedSimpArgs false

abbrev R := BitVec 32
def taps : R := 0x82f63b78#32
def st (c : R) : R := if c.getLsbD 0 then (c >>> 1) ^^^ taps else c >>> 1
def stn : Nat → R → R
  | 0, c => c
  | n + 1, c => stn n (st c)

theorem st_xor (a b : R) : st (a ^^^ b) = st a ^^^ st b := by
  unfold st
  rw [BitVec.getLsbD_xor, BitVec.ushiftRight_xor_distrib]
  cases a.getLsbD 0 <;> cases b.getLsbD 0 <;> simp
  · rw [BitVec.xor_assoc]
  · rw [BitVec.xor_assoc, BitVec.xor_assoc]
    congr 1
    rw [BitVec.xor_comm]
  · have : a >>> 1 ^^^ taps ^^^ (b >>> 1 ^^^ taps) = a >>> 1 ^^^ b >>> 1 ^^^ (taps ^^^ taps) := by
      simp only [BitVec.xor_assoc]
      congr 1
      rw [← BitVec.xor_assoc, BitVec.xor_comm taps, BitVec.xor_assoc]
    rw [this, BitVec.xor_self]
    simp

theorem st_zero : st 0#32 = 0#32 := by decide
theorem stn_add (m n : Nat) (c : R) : stn (m + n) c = stn n (stn m c) := by
  induction m generalizing c with
  | zero => simp [stn]
  | succ m ih => rw [Nat.succ_add]; exact ih (st c)
theorem stn_succ (n : Nat) (c : R) : stn (n + 1) c = st (stn n c) := by rw [stn_add]; rfl
theorem stn_xor (n : Nat) (a b : R) : stn n (a ^^^ b) = stn n a ^^^ stn n b := by
  induction n generalizing a b with
  | zero => rfl
  | succ n ih => show stn n (st (a ^^^ b)) = _; rw [st_xor, ih]; rfl
theorem stn_zero (n : Nat) : stn n 0#32 = 0#32 := by
  induction n with
  | zero => rfl
  | succ n ih => show stn n (st 0#32) = _; rw [st_zero, ih]
theorem st_eq_zero (a : R) (h : st a = 0#32) : a = 0#32 := by
  unfold st at h
  split at h
  · have := congrArg (fun x : R => x.getLsbD 31) h
    simp [taps] at this
  · apply BitVec.eq_of_getLsbD_eq
    intro i hi
    cases i with
    | zero => simp_all
    | succ i =>
      have := congrArg (fun x : R => x.getLsbD i) h
      simp at this
      rw [Nat.add_comm]
      simpa using this
theorem stn_eq_zero (n : Nat) (a : R) (h : stn n a = 0#32) : a = 0#32 := by
  induction n generalizing a with
  | zero => exact h
  | succ n ih => exact st_eq_zero _ (ih _ h)

/-- Four steps at once. -/
theorem four_steps (c : R) : stn 4 c = (c >>> 4) ^^^ stn 4 (c &&& 15#32) := by
  have e : c = ((c >>> 4) <<< 4) ^^^ (c &&& 15#32) := by
    apply BitVec.eq_of_getLsbD_eq
    intro i hi
    have h15 : (15#32 : R).getLsbD i = decide (i < 4) := by
      have : ∀ j : Fin 32, (15#32 : R).getLsbD j.val = decide (j.val < 4) := by decide
      exact this ⟨i, hi⟩
    by_cases h : i < 4
    · simp [h, h15]
    · simp only [BitVec.getLsbD_xor, BitVec.getLsbD_and, BitVec.getLsbD_shiftLeft, BitVec.getLsbD_ushiftRight, h15, h, hi, decide_true, decide_false, Bool.not_false, Bool.true_and, Bool.and_false, Bool.bne_false]
      rw [show 4 + (i - 4) = i by omega]
  have e2 : stn 4 ((c >>> 4) <<< 4) = c >>> 4 := by
    have s : ∀ z : R, z.getLsbD 0 = false → st z = z >>> 1 := by
      intro z hz
      unfold st
      rw [hz]
      rfl
    show st (st (st (st ((c >>> 4) <<< 4)))) = _
    have s1 : st ((c >>> 4) <<< 4) = ((c >>> 4) <<< 4) >>> 1 := s _ (by simp)
    have s2 : st (((c >>> 4) <<< 4) >>> 1) = ((c >>> 4) <<< 4) >>> 1 >>> 1 := s _ (by simp)
    have s3 : st (((c >>> 4) <<< 4) >>> 1 >>> 1) = ((c >>> 4) <<< 4) >>> 1 >>> 1 >>> 1 := s _ (by simp)
    have s4 : st (((c >>> 4) <<< 4) >>> 1 >>> 1 >>> 1) = ((c >>> 4) <<< 4) >>> 1 >>> 1 >>> 1 >>> 1 := s _ (by simp)
    rw [s1, s2, s3, s4]
    apply BitVec.eq_of_getLsbD_eq
    intro i hi
    simp only [BitVec.getLsbD_ushiftRight, BitVec.getLsbD_shiftLeft]
    have e5 : ¬ (1 + (1 + (1 + (1 + i))) < 4) := by omega
    have e6 : 4 + (1 + (1 + (1 + (1 + i))) - 4) = 4 + i := by omega
    rw [e6]
    by_cases h : 1 + (1 + (1 + (1 + i))) < 32
    · simp only [h, e5, decide_true, decide_false, Bool.not_false, Bool.true_and]
    · have : 32 ≤ 4 + i := by omega
      rw [BitVec.getLsbD_of_ge c (4 + i) this, Bool.and_false]
  conv => lhs; rw [e]
  rw [stn_xor, e2]

/-- The register over bytes. -/
def ofB (b : UInt8) : R := BitVec.ofNat 32 b.toNat
def runB : R → List UInt8 → R
  | c, [] => c
  | c, b :: l => runB (stn 8 (c ^^^ ofB b)) l
theorem runB_append (c : R) (l m : List UInt8) : runB c (l ++ m) = runB (runB c l) m := by
  induction l generalizing c with
  | nil => rfl
  | cons b l ih => exact ih _
theorem runB_xor (c d : R) (l : List UInt8) : runB (c ^^^ d) l = runB c l ^^^ stn (8 * l.length) d := by
  induction l generalizing c d with
  | nil => rfl
  | cons b l ih =>
    have e : stn 8 (c ^^^ d ^^^ ofB b) = stn 8 (c ^^^ ofB b) ^^^ stn 8 d := by
      rw [← stn_xor]
      congr 1
      rw [BitVec.xor_assoc, BitVec.xor_comm d, ← BitVec.xor_assoc]
    show runB (stn 8 (c ^^^ d ^^^ ofB b)) l = runB (stn 8 (c ^^^ ofB b)) l ^^^ _
    rw [e, ih, ← stn_add]
    congr 2
    simp
    omega
def ones : R := 0xffffffff#32
def sumB (l : List UInt8) : R := runB ones l ^^^ ones
def moreB (c : R) (l : List UInt8) : R := runB (c ^^^ ones) l ^^^ ones
theorem xor_xor (a b : R) : a ^^^ b ^^^ b = a := by rw [BitVec.xor_assoc, BitVec.xor_self]; simp
theorem more_sum (s t : List UInt8) : moreB (sumB s) t = sumB (s ++ t) := by
  unfold moreB sumB
  rw [xor_xor, runB_append]
theorem more_zero (t : List UInt8) : moreB 0#32 t = sumB t := by
  unfold moreB sumB
  simp
theorem xor_left_comm (a b c : R) : a ^^^ (b ^^^ c) = b ^^^ (a ^^^ c) := by rw [← BitVec.xor_assoc, BitVec.xor_comm a, BitVec.xor_assoc]
/-- The sum of both. -/
theorem join_sum (s t : List UInt8) : stn (8 * t.length) (sumB s) ^^^ sumB t = sumB (s ++ t) := by
  rw [← more_sum]
  unfold moreB
  rw [BitVec.xor_comm (sumB s), runB_xor]
  unfold sumB
  simp only [BitVec.xor_assoc, BitVec.xor_comm, xor_left_comm]
theorem runB_zeros (c : R) (n : Nat) : runB c (List.replicate n 0) = stn (8 * n) c := by
  induction n generalizing c with
  | zero => rfl
  | succ n ih =>
    rw [List.replicate_succ]
    have e : c ^^^ ofB 0 = c := by show c ^^^ 0#32 = c; simp
    show runB (stn 8 (c ^^^ ofB 0)) _ = _
    rw [e, ih, ← stn_add]
    congr 1
    omega
/-- Any two numbers. -/
theorem join_zeros (a b : R) (n : Nat) : runB (a ^^^ ones) (List.replicate n 0) ^^^ ones ^^^ sumB (List.replicate n 0) ^^^ b = stn (8 * n) a ^^^ b := by
  congr 1
  unfold sumB
  rw [runB_zeros, runB_zeros, stn_xor]
  have : ∀ x y z : R, x ^^^ y ^^^ z ^^^ (y ^^^ z) = x := by
    intro x y z
    rw [BitVec.xor_assoc x, BitVec.xor_assoc x, BitVec.xor_self]
    simp
  exact this _ _ _

/-- The product of two registers, k rounds of it. -/
def mulK : Nat → R → R → R
  | 0, _, _ => 0#32
  | k + 1, a, b => (if b.msb then a else 0#32) ^^^ mulK k (st a) (b <<< 1)
def mul (a b : R) : R := mulK 32 a b
theorem mulK_zero (k : Nat) (a : R) : mulK k a 0#32 = 0#32 := by
  induction k generalizing a with
  | zero => rfl
  | succ k ih =>
    show (if (0#32).msb then a else 0#32) ^^^ mulK k (st a) (0#32 <<< 1) = _
    have : (0#32 : R) <<< 1 = 0#32 := by decide
    rw [this, ih]
    simp
theorem ite_xor (p : Bool) (a b : R) : (if p then a ^^^ b else 0#32) = (if p then a else 0#32) ^^^ (if p then b else 0#32) := by cases p <;> simp
theorem xor_four (a b c d : R) : (a ^^^ b) ^^^ (c ^^^ d) = (a ^^^ c) ^^^ (b ^^^ d) := by simp only [BitVec.xor_assoc, BitVec.xor_comm, xor_left_comm]
theorem mulK_xor (k : Nat) (a a' b : R) : mulK k (a ^^^ a') b = mulK k a b ^^^ mulK k a' b := by
  induction k generalizing a a' b with
  | zero => show (0#32 : R) = 0#32 ^^^ 0#32; decide
  | succ k ih =>
    show (if b.msb then a ^^^ a' else 0#32) ^^^ mulK k (st (a ^^^ a')) (b <<< 1) = _
    rw [st_xor, ih, ite_xor, xor_four]
    rfl
theorem mulK_zero_left (k : Nat) (b : R) : mulK k 0#32 b = 0#32 := by
  induction k generalizing b with
  | zero => rfl
  | succ k ih =>
    show (if b.msb then 0#32 else 0#32) ^^^ mulK k (st 0#32) (b <<< 1) = _
    rw [st_zero, ih]
    simp
theorem st_ite (p : Bool) (a : R) : st (if p then a else 0#32) = if p then st a else 0#32 := by cases p <;> simp [st_zero]
theorem mulK_st (k : Nat) (a b : R) : mulK k (st a) b = st (mulK k a b) := by
  induction k generalizing a b with
  | zero => exact st_zero.symm
  | succ k ih =>
    show (if b.msb then st a else 0#32) ^^^ mulK k (st (st a)) (b <<< 1) = st ((if b.msb then a else 0#32) ^^^ mulK k (st a) (b <<< 1))
    rw [st_xor, st_ite, ih]
theorem mul_stn (n : Nat) (a b : R) : mul (stn n a) b = stn n (mul a b) := by
  induction n generalizing a with
  | zero => rfl
  | succ n ih => show mul (stn n (st a)) b = _; rw [ih]; unfold mul; rw [mulK_st]; rfl
def one : R := 0x80000000#32
theorem st_bit (k : Nat) (h : k + 1 < 32) : st (1#32 <<< (k + 1)) = 1#32 <<< k := by
  have : ∀ j : Fin 31, st (1#32 <<< (j.val + 1)) = 1#32 <<< j.val := by decide
  exact this ⟨k, by omega⟩
theorem mulK_unit (k : Nat) (h : k < 32) (b : R) : mulK (k + 1) (1#32 <<< k) b = b >>> (31 - k) := by
  induction k generalizing b with
  | zero =>
    show (if b.msb then 1#32 <<< 0 else 0#32) ^^^ 0#32 = b >>> 31
    rw [BitVec.msb_eq_getLsbD_last]
    apply BitVec.eq_of_getLsbD_eq
    intro i hi
    simp only [BitVec.getLsbD_ushiftRight]
    cases i with
    | zero => cases b.getLsbD 31 <;> simp
    | succ i =>
      rw [BitVec.getLsbD_of_ge b (31 - 0 + (i + 1)) (by omega)]
      split <;> simp
  | succ k ih =>
    have e : mulK (k + 1 + 1) (1#32 <<< (k + 1)) b = (if b.msb then 1#32 <<< (k + 1) else 0#32) ^^^ mulK (k + 1) (st (1#32 <<< (k + 1))) (b <<< 1) := rfl
    rw [e, st_bit k h, ih (by omega), BitVec.msb_eq_getLsbD_last]
    apply BitVec.eq_of_getLsbD_eq
    intro i hi
    simp only [BitVec.getLsbD_xor, BitVec.getLsbD_ushiftRight, BitVec.getLsbD_shiftLeft]
    have h1 : (if b.getLsbD (32 - 1) = true then 1#32 <<< (k + 1) else 0#32).getLsbD i = (b.getLsbD 31 && decide (i = k + 1)) := by
      split
      · rename_i hb
        rw [show (31 : Nat) = 32 - 1 from rfl, hb]
        simp only [BitVec.getLsbD_shiftLeft, BitVec.getLsbD_one]
        by_cases hik : i = k + 1
        · simp [hik, h]
        · simp [hik, hi]
          omega
      · rename_i hb
        have : b.getLsbD 31 = false := Bool.eq_false_iff.mpr hb
        rw [this, Bool.false_and, BitVec.getLsbD_zero]
    rw [h1]
    by_cases hik : i = k + 1
    · subst hik
      have : ¬ (31 - k + (k + 1) < 32) := by omega
      have e3 : 31 - (k + 1) + (k + 1) = 31 := by omega
      rw [e3]
      simp only [this, decide_true, decide_false, Bool.and_true, Bool.false_and, Bool.bne_false]
    · simp only [hik, decide_false, Bool.and_false, Bool.false_bne]
      by_cases hlt : 31 - k + i < 32
      · have e4 : 31 - k + i - 1 = 31 - (k + 1) + i := by omega
        have e5 : ¬ (31 - k + i < 1) := by omega
        simp [hlt, e4, e5]
      · have e6 : 32 ≤ 31 - (k + 1) + i := by omega
        rw [BitVec.getLsbD_of_ge b _ e6]
        simp [hlt]
theorem mul_unit (b : R) : mul one b = b := by
  have := mulK_unit 31 (by omega) b
  rw [show (31 - 31 : Nat) = 0 from rfl, BitVec.ushiftRight_zero, show (1#32 : R) <<< 31 = one from by decide] at this
  exact this
theorem mul_mulK (k : Nat) (c a b : R) : mul (mulK k c a) b = mulK k (mul c b) a := by
  induction k generalizing c a with
  | zero => exact mulK_zero_left 32 b
  | succ k ih =>
    show mul ((if a.msb then c else 0#32) ^^^ mulK k (st c) (a <<< 1)) b = (if a.msb then mul c b else 0#32) ^^^ mulK k (st (mul c b)) (a <<< 1)
    have e1 : ∀ x y : R, mul (x ^^^ y) b = mul x b ^^^ mul y b := fun x y => mulK_xor 32 x y b
    have e2 : mul (if a.msb then c else 0#32) b = if a.msb then mul c b else 0#32 := by
      cases a.msb
      · exact mulK_zero_left 32 b
      · rfl
    rw [e1, e2, ih]
    congr 2
    exact mulK_st 32 c b
theorem mul_comm (a b : R) : mul a b = mul b a := by
  have := mul_mulK 32 one a b
  rw [mul_unit] at this
  have e : mulK 32 one a = a := mul_unit a
  rw [e] at this
  exact this
/-- What n shifts make of a register, as a factor. -/
def pow (n : Nat) : R := stn n one
theorem mul_pow (a : R) (n : Nat) : mul a (pow n) = stn n a := by rw [mul_comm, pow, mul_stn, mul_unit]
theorem pow_mul (m n : Nat) : mul (pow m) (pow n) = pow (m + n) := by rw [mul_pow, pow, ← stn_add]; rfl
theorem pow_eight : pow 8 = 0x00800000#32 := by decide
theorem pow_zero : pow 0 = 0x80000000#32 := by decide

/-- The rounds of the product's loop. -/
def rounds : Nat → R → Nat
  | 0, _ => 0
  | k + 1, b => if b = 0#32 then 0 else 1 + rounds k (b <<< 1)
theorem rounds_more (k : Nat) (b : R) (h : b <<< k = 0#32) : rounds (k + 1) b = rounds k b := by
  induction k generalizing b with
  | zero =>
    have : b = 0#32 := by simpa using h
    simp [rounds, this]
  | succ k ih =>
    have : rounds (k + 1 + 1) b = if b = 0#32 then 0 else 1 + rounds (k + 1) (b <<< 1) := rfl
    rw [this, ih (b <<< 1) (by rw [← BitVec.shiftLeft_add, Nat.add_comm]; exact h)]
    rfl
theorem rounds_step (b : R) (h : b ≠ 0#32) : rounds 32 (b <<< 1) < rounds 32 b := by
  have e : rounds 32 b = 1 + rounds 31 (b <<< 1) := by
    show (if b = 0#32 then 0 else 1 + rounds 31 (b <<< 1)) = _
    rw [if_neg h]
  have e2 : rounds 32 (b <<< 1) = rounds 31 (b <<< 1) := rounds_more 31 _ (by rw [← BitVec.shiftLeft_add]; simp)
  omega

/-- One bit turned. -/
def flip (l : List UInt8) (p : Nat) : List UInt8 := l.set (p / 8) (l.getD (p / 8) 0 ^^^ UInt8.ofNat (2 ^ (p % 8)))
theorem ofB_xor (a b : UInt8) : ofB (a ^^^ b) = ofB a ^^^ ofB b := by
  unfold ofB
  apply BitVec.eq_of_toNat_eq
  have ha := a.toNat_lt
  have hb := b.toNat_lt
  have hx : a.toNat ^^^ b.toNat < 2 ^ 8 := Nat.xor_lt_two_pow (by omega) (by omega)
  rw [UInt8.toNat_xor, BitVec.toNat_xor]
  simp only [BitVec.toNat_ofNat]
  rw [Nat.mod_eq_of_lt (by omega), Nat.mod_eq_of_lt (by omega), Nat.mod_eq_of_lt (by omega)]
theorem stn_bit (k : Nat) (h : k < 8) : stn 8 (ofB (UInt8.ofNat (2 ^ k))) = stn (8 - k) 1#32 := by
  have : ∀ j : Fin 8, stn 8 (ofB (UInt8.ofNat (2 ^ j.val))) = stn (8 - j.val) 1#32 := by decide
  exact this ⟨k, h⟩
theorem runB_flip (c : R) (l : List UInt8) (p : Nat) (h : p < 8 * l.length) : runB c (flip l p) = runB c l ^^^ stn (8 * l.length - p) 1#32 := by
  have hq : p / 8 < l.length := by omega
  generalize hq' : p / 8 = q at hq
  generalize hk : p % 8 = k
  have hk8 : k < 8 := by omega
  have e0 : 8 * l.length - p = (8 - k) + 8 * (l.length - q - 1) := by omega
  unfold flip
  rw [hq', hk, e0]
  clear e0 hk hq' h
  induction q generalizing c l with
  | zero =>
    cases l with
    | nil => simp at hq
    | cons b l =>
      show runB (stn 8 (c ^^^ ofB (b ^^^ UInt8.ofNat (2 ^ k)))) l = runB (stn 8 (c ^^^ ofB b)) l ^^^ _
      rw [ofB_xor, ← BitVec.xor_assoc, stn_xor, runB_xor, stn_bit k hk8, ← stn_add]
      simp
  | succ q ih =>
    cases l with
    | nil => simp at hq
    | cons b l =>
      have := ih (stn 8 (c ^^^ ofB b)) l (by simpa using hq)
      show runB (stn 8 (c ^^^ ofB b)) (l.set q (l.getD q 0 ^^^ UInt8.ofNat (2 ^ k))) = runB (stn 8 (c ^^^ ofB b)) l ^^^ _
      rw [this]
      congr 3
      simp
theorem flip_length (l : List UInt8) (p : Nat) : (flip l p).length = l.length := by simp [flip]
theorem stn_low (i : Nat) (h : i < 32) : stn i (1#32 <<< i) = 1#32 := by
  have : ∀ j : Fin 32, stn j.val (1#32 <<< j.val) = 1#32 := by decide +kernel
  exact this ⟨i, h⟩
/-- A bit that comes i bits later is the i-th of a register that comes at once. -/
theorem stn_late (m i : Nat) (h : i < 32) (hm : i ≤ m) : stn (m - i) 1#32 = stn m (1#32 <<< i) := by
  have : m = i + (m - i) := by omega
  conv => rhs; rw [this]
  rw [stn_add, stn_low i h]
/-- The bits of a pattern below the i-th. -/
def low (p : Nat) (i : Nat) : R := BitVec.ofNat 32 (p % 2 ^ i)
theorem low_succ (p i : Nat) (hi : i < 32) : low p (i + 1) = if p / 2 ^ i % 2 = 1 then low p i ^^^ (1#32 <<< i) else low p i := by
  unfold low
  apply BitVec.eq_of_getLsbD_eq
  intro j hj
  have e : (BitVec.ofNat 32 (p % 2 ^ (i + 1))).getLsbD j = (decide (j < i + 1) && p.testBit j) := by
    rw [BitVec.getLsbD_ofNat, Nat.testBit_mod_two_pow]; simp [hj]
  have e2 : (BitVec.ofNat 32 (p % 2 ^ i)).getLsbD j = (decide (j < i) && p.testBit j) := by
    rw [BitVec.getLsbD_ofNat, Nat.testBit_mod_two_pow]; simp [hj]
  have e3 : p.testBit i = decide (p / 2 ^ i % 2 = 1) := by
    rw [Nat.testBit_eq_decide_div_mod_eq]
  rw [e]
  split
  · rename_i h
    rw [BitVec.getLsbD_xor, e2, BitVec.getLsbD_shiftLeft, BitVec.getLsbD_one]
    by_cases hji : j = i
    · subst hji
      rw [e3]
      simp [h, hj]
    · by_cases hlt : j < i
      · simp [hlt, Nat.lt_succ_of_lt hlt]
      · have : ¬ j < i + 1 := by omega
        have h2 : ¬ (j - i = 0) := by omega
        simp [hlt, this, h2]
  · rename_i h
    rw [e2]
    by_cases hji : j = i
    · subst hji
      rw [e3]
      simp [h]
    · by_cases hlt : j < i
      · simp [hlt, Nat.lt_succ_of_lt hlt]
      · have : ¬ j < i + 1 := by omega
        simp [hlt, this]
theorem low_zero (p : Nat) : low p 0 = 0#32 := by unfold low; simp [Nat.mod_one]
theorem low_all (p : Nat) (h0 : 0 < p) (h : p < 2 ^ 32) : low p 32 ≠ 0#32 := by
  unfold low
  intro e
  have := congrArg BitVec.toNat e
  simp at this
  omega
/-- A burst turns the sum. -/
theorem burst_ne (l m : List UInt8) (n p : Nat) (h0 : 0 < p) (h : p < 2 ^ 32) (e : runB ones m = runB ones l ^^^ stn n (low p 32)) : sumB m ≠ sumB l := by
  intro hs
  unfold sumB at hs
  have h1 : runB ones m = runB ones l := by
    have := congrArg (· ^^^ ones) hs
    simpa [xor_xor] using this
  rw [h1] at e
  have h2 : stn n (low p 32) = 0#32 := by
    have := congrArg (runB ones l ^^^ ·) e
    simp only [← BitVec.xor_assoc, BitVec.xor_self] at this
    simpa using this.symm
  exact low_all p h0 h (stn_eq_zero _ _ h2)
theorem sum_example : sumB [49, 50, 51, 52, 53, 54, 55, 56, 57] = 0xe3069283#32 := by decide +kernel
end Go.Proofs.Ytakdfdnndogaiaa.Sm
