/- Why a record has no bytes: refusal. The plain mathematics of the sum: a register of 32 bits as a bit vector, its steps, that they are linear, the product of two registers, and what a burst of bits does. No condition. The small callees of the layer sum, over registers as bit vectors. The table of sixteen steps. The sum that goes on over a text: what More and Sum of the layer return. The law's own register over a text, bit by bit; its sum; the example; the program's Sum. The layer sum's Seal and Open, over pack's contracts. -/
import Derived.Test.YtgcfbjecmmnlhaaGreatMac
import Derived.WalkKit
import Derived.Test.YtgcfbjecmmnlhaaGreatProg
import Derived.ProofKit
import Derived.WalkSpells
import Derived.WalkLawsBesides
import Derived.Deep.QuietTactic
import Derived.BigQuiet
import Derived.Lib.SmallJoins
import Derived.Lib.SlBytesRow
import Derived.Deep.RegionHeld3
namespace Go.Proofs.YtgcfbjecmmnlhaaGreat
open Go.RowKit
set_option linter.unusedVariables false
set_option linter.unusedSimpArgs false
set_option maxRecDepth 100000

section
variable {w : World} {s : Sc} {T : Value} {a : Option Addr} {c : Nat} {l : List Im} {g : List Tb}
set_option maxHeartbeats 1000000 in
theorem refusalR_any (hn : l.length ≤ 1000) (hcs : Cs w a (encI l)) (ht : ∀ p ∈ l, p.2.size ≤ 9223372036854775807) (hk : s.ky.size ≤ 9223372036854775807) (ho : s.ol.size ≤ 9223372036854775807) (hw : s.nw.size ≤ 9223372036854775807) :
    Calls Tryz.prog 74 #[.agg (s.A (.slice a l.length c) T)] w fun r w' => r = .returned (.int .i64 (refM ⟨s, l, g⟩)) ∧ Below w.heap.size w w' := by
  have CF : Hid (∀ w', Below w.heap.size w w' → Calls Tryz.prog 93 #[.agg (s.A (.slice a l.length c) T)] w' fun r w'' => r = .returned (.bool (formed ⟨s, l, g⟩)) ∧ Below w'.heap.size w' w'') := fun w' hb => isFormed_any hn (hcs.below hb) ht
  clear hcs ht
  unfold refM
  dsimp only
  by_cases h1 : s.kd < 1
  · rw [if_pos (Or.inl h1)]
    go_enter Tryz.func74, Tryz.ntmps74
    go_wp2_with (refine wpList_box_rc (s := s) (I := _) (T := _) _ rfl _ rfl rfl ?_; intro w0 b0 N0; have k0 := N0.rc.c0)
    go_ret
    exact ⟨rfl, N0.below⟩
  by_cases h2 : 10 < s.kd
  · rw [if_pos (Or.inr h2)]
    go_enter Tryz.func74, Tryz.ntmps74
    go_wp2_with (refine wpList_box_rc (s := s) (I := _) (T := _) _ rfl _ rfl rfl ?_; intro w0 b0 N0; have k0 := N0.rc.c0)
    go_ret
    exact ⟨rfl, N0.below⟩
  rw [if_neg (by omega)]
  by_cases h3 : formed ⟨s, l, g⟩ = false
  · rw [if_pos h3]
    rw [h3] at CF
    go_enter Tryz.func74, Tryz.ntmps74
    go_wp2_with (first
      | (refine wpList_box_rc (s := s) (I := _) (T := _) _ rfl _ rfl rfl ?_; intro w0 b0 N0; have k0 := N0.rc.c0)
      | (refine wpList_load_rc _ rfl _ rfl rfl N0.rc ?_)
      | (go_at_call 93; refine (CF.out _ N0.below).mono ?_; rintro e w1 ⟨rfl, b1⟩))
    go_ret
    exact ⟨rfl, thn N0.below b1⟩
  rw [if_neg h3]
  have h3' : formed ⟨s, l, g⟩ = true := by simpa using h3
  rw [h3'] at CF
  clear h3 h3'
  obtain ⟨K, hK⟩ : ∃ K, K = decide ((16 : Int) < s.ky.size) := ⟨_, rfl⟩
  obtain ⟨V, hV⟩ : ∃ V, V = (decide ((32 : Int) < s.ol.size) || decide ((32 : Int) < s.nw.size)) := ⟨_, rfl⟩
  have C1 : Hid (∀ w1 : World, Calls Tryz.prog 94 #[.int .i64 16, .slice (some ⟨w1.heap.size, 0, none⟩) 1 1] (w1.alloc (.cells #[.string s.ky] 9)) fun r w' => r = .returned (.bool K) ∧ w' = w1.alloc (.cells #[.string s.ky] 9)) := fun w1 => by
    rw [hK]
    exact tooLong_1 16 (Joins.cell_of_block (MapKept.heap_alloc w1 _).1 0) hk
  have C2 : Hid (∀ w1 : World, Calls Tryz.prog 94 #[.int .i64 32, .slice (some ⟨w1.heap.size + 1, 0, none⟩) 2 2] ((w1.alloc (.cells #[.string s.ky] 9)).alloc (.cells #[.string s.ol, .string s.nw] 9)) fun r w' => r = .returned (.bool V) ∧ w' = (w1.alloc (.cells #[.string s.ky] 9)).alloc (.cells #[.string s.ol, .string s.nw] 9)) := fun w1 => by
    rw [hV]
    have hz : (w1.alloc (.cells #[.string s.ky] 9)).heap.size = w1.heap.size + 1 := by simp
    have hb := (MapKept.heap_alloc (w1.alloc (.cells #[.string s.ky] 9)) (.cells #[.string s.ol, .string s.nw] 9)).1
    rw [hz] at hb
    exact tooLong_2 32 (Joins.cell_of_block hb 0) (Joins.cell_of_block hb 1) ho hw
  by_cases h4 : 16 < s.ky.size
  · rw [if_pos h4]
    have hK' : K = true := by rw [hK]; simp; omega
    subst hK'
    clear hK hV C2 h4 hk ho hw
    go_enter Tryz.func74, Tryz.ntmps74
    go_wp2_with (first
      | (refine wpList_box_rc (s := s) (I := _) (T := _) _ rfl _ rfl rfl ?_; intro w0 b0 N0; have k0 := N0.rc.c0)
      | (refine wpList_load_rc _ rfl _ rfl rfl N0.rc ?_)
      | (go_at_call 93; refine (CF.out _ N0.below).mono ?_; rintro e w1 ⟨rfl, b1⟩; have k5 := (N0.rc.below b1).c5)
      | (go_at_call 94; refine (C1.out _).mono ?_; rintro e w2 ⟨rfl, rfl⟩))
    go_ret
    exact ⟨rfl, thn (thn N0.below b1) ((Below.refl _ _).alloc (Nat.le_refl _) _)⟩
  rw [if_neg h4]
  have hK' : K = false := by rw [hK]; simp; omega
  subst hK'
  by_cases h5 : 32 < s.ol.size ∨ 32 < s.nw.size
  · rw [if_pos h5]
    have hV' : V = true := by rw [hV]; simp; omega
    subst hV'
    clear hK hV h4 h5 hk ho hw
    go_enter Tryz.func74, Tryz.ntmps74
    go_wp2_with (first
      | (refine wpList_box_rc (s := s) (I := _) (T := _) _ rfl _ rfl rfl ?_; intro w0 b0 N0; have k0 := N0.rc.c0)
      | (refine wpList_load_rc _ rfl _ rfl rfl N0.rc ?_)
      | (go_at_call 93; refine (CF.out _ N0.below).mono ?_; rintro e w1 ⟨rfl, b1⟩; have k5 := (N0.rc.below b1).c5; have k6 := (N0.rc.below b1).c6; have k7 := (N0.rc.below b1).c7; have hlt := (N0.rc.below b1).lt)
      | (go_at_call 94; refine (C1.out _).mono ?_; clear C1; rintro e w2 ⟨rfl, rfl⟩; have B2 : Below w1.heap.size w1 (w1.alloc (.cells #[.string s.ky] 9)) := (Below.refl _ _).alloc (Nat.le_refl _) _)
      | (go_at_call 94; refine (C2.out _).mono ?_; clear C2; rintro e w3 ⟨rfl, rfl⟩))
    go_ret
    exact ⟨rfl, thn (thn (thn N0.below b1) B2) ((Below.refl _ _).alloc (Nat.le_refl _) _)⟩
  · rw [if_neg h5]
    have hV' : V = false := by rw [hV]; simp; omega
    subst hV'
    clear hK hV h4 h5 hk ho hw
    go_enter Tryz.func74, Tryz.ntmps74
    go_wp2_with (first
      | (refine wpList_box_rc (s := s) (I := _) (T := _) _ rfl _ rfl rfl ?_; intro w0 b0 N0; have k0 := N0.rc.c0)
      | (refine wpList_load_rc _ rfl _ rfl rfl N0.rc ?_)
      | (go_at_call 93; refine (CF.out _ N0.below).mono ?_; rintro e w1 ⟨rfl, b1⟩; have k5 := (N0.rc.below b1).c5; have k6 := (N0.rc.below b1).c6; have k7 := (N0.rc.below b1).c7; have hlt := (N0.rc.below b1).lt)
      | (go_at_call 94; refine (C1.out _).mono ?_; clear C1; rintro e w2 ⟨rfl, rfl⟩; have B2 : Below w1.heap.size w1 (w1.alloc (.cells #[.string s.ky] 9)) := (Below.refl _ _).alloc (Nat.le_refl _) _)
      | (go_at_call 94; refine (C2.out _).mono ?_; clear C2; rintro e w3 ⟨rfl, rfl⟩))
    go_ret
    exact ⟨rfl, thn (thn (thn N0.below b1) B2) ((Below.refl _ _).alloc (Nat.le_refl _) _)⟩
end
end Go.Proofs.YtgcfbjecmmnlhaaGreat

namespace Go.Proofs.YtgcfbjecmmnlhaaGreat.Sm
set_option linter.unusedVariables false
set_option linter.unusedSimpArgs false

abbrev R := BitVec 32
def taps : R := 0x82f63b78#32
def st (c : R) : R := if c.getLsbD 0 then (c >>> 1) ^^^ taps else c >>> 1
def stn : Nat → R → R
  | 0, c => c
  | n + 1, c => stn n (st c)

theorem st_xor (a b : R) : st (a ^^^ b) = st a ^^^ st b := by
  unfold st
  rw [BitVec.getLsbD_xor, BitVec.ushiftRight_xor_distrib]
  cases a.getLsbD 0 <;> cases b.getLsbD 0 <;> simp
  · rw [BitVec.xor_assoc]
  · rw [BitVec.xor_assoc, BitVec.xor_assoc]
    congr 1
    rw [BitVec.xor_comm]
  · have : a >>> 1 ^^^ taps ^^^ (b >>> 1 ^^^ taps) = a >>> 1 ^^^ b >>> 1 ^^^ (taps ^^^ taps) := by
      simp only [BitVec.xor_assoc]
      congr 1
      rw [← BitVec.xor_assoc, BitVec.xor_comm taps, BitVec.xor_assoc]
    rw [this, BitVec.xor_self]
    simp

theorem st_zero : st 0#32 = 0#32 := by decide
theorem stn_add (m n : Nat) (c : R) : stn (m + n) c = stn n (stn m c) := by
  induction m generalizing c with
  | zero => simp [stn]
  | succ m ih => rw [Nat.succ_add]; exact ih (st c)
theorem stn_succ (n : Nat) (c : R) : stn (n + 1) c = st (stn n c) := by rw [stn_add]; rfl
theorem stn_xor (n : Nat) (a b : R) : stn n (a ^^^ b) = stn n a ^^^ stn n b := by
  induction n generalizing a b with
  | zero => rfl
  | succ n ih => show stn n (st (a ^^^ b)) = _; rw [st_xor, ih]; rfl
theorem stn_zero (n : Nat) : stn n 0#32 = 0#32 := by
  induction n with
  | zero => rfl
  | succ n ih => show stn n (st 0#32) = _; rw [st_zero, ih]
theorem st_eq_zero (a : R) (h : st a = 0#32) : a = 0#32 := by
  unfold st at h
  split at h
  · have := congrArg (fun x : R => x.getLsbD 31) h
    simp [taps] at this
  · apply BitVec.eq_of_getLsbD_eq
    intro i hi
    cases i with
    | zero => simp_all
    | succ i =>
      have := congrArg (fun x : R => x.getLsbD i) h
      simp at this
      rw [Nat.add_comm]
      simpa using this
theorem stn_eq_zero (n : Nat) (a : R) (h : stn n a = 0#32) : a = 0#32 := by
  induction n generalizing a with
  | zero => exact h
  | succ n ih => exact st_eq_zero _ (ih _ h)

/-- Four steps at once. -/
theorem four_steps (c : R) : stn 4 c = (c >>> 4) ^^^ stn 4 (c &&& 15#32) := by
  have e : c = ((c >>> 4) <<< 4) ^^^ (c &&& 15#32) := by
    apply BitVec.eq_of_getLsbD_eq
    intro i hi
    have h15 : (15#32 : R).getLsbD i = decide (i < 4) := by
      have : ∀ j : Fin 32, (15#32 : R).getLsbD j.val = decide (j.val < 4) := by decide
      exact this ⟨i, hi⟩
    by_cases h : i < 4
    · simp [h, h15]
    · simp only [BitVec.getLsbD_xor, BitVec.getLsbD_and, BitVec.getLsbD_shiftLeft, BitVec.getLsbD_ushiftRight, h15, h, hi, decide_true, decide_false, Bool.not_false, Bool.true_and, Bool.and_false, Bool.bne_false]
      rw [show 4 + (i - 4) = i by omega]
  have e2 : stn 4 ((c >>> 4) <<< 4) = c >>> 4 := by
    have s : ∀ z : R, z.getLsbD 0 = false → st z = z >>> 1 := by
      intro z hz
      unfold st
      rw [hz]
      rfl
    show st (st (st (st ((c >>> 4) <<< 4)))) = _
    have s1 : st ((c >>> 4) <<< 4) = ((c >>> 4) <<< 4) >>> 1 := s _ (by simp)
    have s2 : st (((c >>> 4) <<< 4) >>> 1) = ((c >>> 4) <<< 4) >>> 1 >>> 1 := s _ (by simp)
    have s3 : st (((c >>> 4) <<< 4) >>> 1 >>> 1) = ((c >>> 4) <<< 4) >>> 1 >>> 1 >>> 1 := s _ (by simp)
    have s4 : st (((c >>> 4) <<< 4) >>> 1 >>> 1 >>> 1) = ((c >>> 4) <<< 4) >>> 1 >>> 1 >>> 1 >>> 1 := s _ (by simp)
    rw [s1, s2, s3, s4]
    apply BitVec.eq_of_getLsbD_eq
    intro i hi
    simp only [BitVec.getLsbD_ushiftRight, BitVec.getLsbD_shiftLeft]
    have e5 : ¬ (1 + (1 + (1 + (1 + i))) < 4) := by omega
    have e6 : 4 + (1 + (1 + (1 + (1 + i))) - 4) = 4 + i := by omega
    rw [e6]
    by_cases h : 1 + (1 + (1 + (1 + i))) < 32
    · simp only [h, e5, decide_true, decide_false, Bool.not_false, Bool.true_and]
    · have : 32 ≤ 4 + i := by omega
      rw [BitVec.getLsbD_of_ge c (4 + i) this, Bool.and_false]
  conv => lhs; rw [e]
  rw [stn_xor, e2]

/-- The register over bytes. -/
def ofB (b : UInt8) : R := BitVec.ofNat 32 b.toNat
def runB : R → List UInt8 → R
  | c, [] => c
  | c, b :: l => runB (stn 8 (c ^^^ ofB b)) l
theorem runB_append (c : R) (l m : List UInt8) : runB c (l ++ m) = runB (runB c l) m := by
  induction l generalizing c with
  | nil => rfl
  | cons b l ih => exact ih _
theorem runB_xor (c d : R) (l : List UInt8) : runB (c ^^^ d) l = runB c l ^^^ stn (8 * l.length) d := by
  induction l generalizing c d with
  | nil => rfl
  | cons b l ih =>
    have e : stn 8 (c ^^^ d ^^^ ofB b) = stn 8 (c ^^^ ofB b) ^^^ stn 8 d := by
      rw [← stn_xor]
      congr 1
      rw [BitVec.xor_assoc, BitVec.xor_comm d, ← BitVec.xor_assoc]
    show runB (stn 8 (c ^^^ d ^^^ ofB b)) l = runB (stn 8 (c ^^^ ofB b)) l ^^^ _
    rw [e, ih, ← stn_add]
    congr 2
    simp
    omega
def ones : R := 0xffffffff#32
def sumB (l : List UInt8) : R := runB ones l ^^^ ones
def moreB (c : R) (l : List UInt8) : R := runB (c ^^^ ones) l ^^^ ones
theorem xor_xor (a b : R) : a ^^^ b ^^^ b = a := by rw [BitVec.xor_assoc, BitVec.xor_self]; simp
theorem more_sum (s t : List UInt8) : moreB (sumB s) t = sumB (s ++ t) := by
  unfold moreB sumB
  rw [xor_xor, runB_append]
theorem more_zero (t : List UInt8) : moreB 0#32 t = sumB t := by
  unfold moreB sumB
  simp
theorem xor_left_comm (a b c : R) : a ^^^ (b ^^^ c) = b ^^^ (a ^^^ c) := by rw [← BitVec.xor_assoc, BitVec.xor_comm a, BitVec.xor_assoc]
/-- The sum of both. -/
theorem join_sum (s t : List UInt8) : stn (8 * t.length) (sumB s) ^^^ sumB t = sumB (s ++ t) := by
  rw [← more_sum]
  unfold moreB
  rw [BitVec.xor_comm (sumB s), runB_xor]
  unfold sumB
  simp only [BitVec.xor_assoc, BitVec.xor_comm, xor_left_comm]
theorem runB_zeros (c : R) (n : Nat) : runB c (List.replicate n 0) = stn (8 * n) c := by
  induction n generalizing c with
  | zero => rfl
  | succ n ih =>
    rw [List.replicate_succ]
    have e : c ^^^ ofB 0 = c := by show c ^^^ 0#32 = c; simp
    show runB (stn 8 (c ^^^ ofB 0)) _ = _
    rw [e, ih, ← stn_add]
    congr 1
    omega
/-- Any two numbers. -/
theorem join_zeros (a b : R) (n : Nat) : runB (a ^^^ ones) (List.replicate n 0) ^^^ ones ^^^ sumB (List.replicate n 0) ^^^ b = stn (8 * n) a ^^^ b := by
  congr 1
  unfold sumB
  rw [runB_zeros, runB_zeros, stn_xor]
  have : ∀ x y z : R, x ^^^ y ^^^ z ^^^ (y ^^^ z) = x := by
    intro x y z
    rw [BitVec.xor_assoc x, BitVec.xor_assoc x, BitVec.xor_self]
    simp
  exact this _ _ _

/-- The product of two registers, k rounds of it. -/
def mulK : Nat → R → R → R
  | 0, _, _ => 0#32
  | k + 1, a, b => (if b.msb then a else 0#32) ^^^ mulK k (st a) (b <<< 1)
def mul (a b : R) : R := mulK 32 a b
theorem mulK_zero (k : Nat) (a : R) : mulK k a 0#32 = 0#32 := by
  induction k generalizing a with
  | zero => rfl
  | succ k ih =>
    show (if (0#32).msb then a else 0#32) ^^^ mulK k (st a) (0#32 <<< 1) = _
    have : (0#32 : R) <<< 1 = 0#32 := by decide
    rw [this, ih]
    simp
theorem ite_xor (p : Bool) (a b : R) : (if p then a ^^^ b else 0#32) = (if p then a else 0#32) ^^^ (if p then b else 0#32) := by cases p <;> simp
theorem xor_four (a b c d : R) : (a ^^^ b) ^^^ (c ^^^ d) = (a ^^^ c) ^^^ (b ^^^ d) := by simp only [BitVec.xor_assoc, BitVec.xor_comm, xor_left_comm]
theorem mulK_xor (k : Nat) (a a' b : R) : mulK k (a ^^^ a') b = mulK k a b ^^^ mulK k a' b := by
  induction k generalizing a a' b with
  | zero => show (0#32 : R) = 0#32 ^^^ 0#32; decide
  | succ k ih =>
    show (if b.msb then a ^^^ a' else 0#32) ^^^ mulK k (st (a ^^^ a')) (b <<< 1) = _
    rw [st_xor, ih, ite_xor, xor_four]
    rfl
theorem mulK_zero_left (k : Nat) (b : R) : mulK k 0#32 b = 0#32 := by
  induction k generalizing b with
  | zero => rfl
  | succ k ih =>
    show (if b.msb then 0#32 else 0#32) ^^^ mulK k (st 0#32) (b <<< 1) = _
    rw [st_zero, ih]
    simp
theorem st_ite (p : Bool) (a : R) : st (if p then a else 0#32) = if p then st a else 0#32 := by cases p <;> simp [st_zero]
theorem mulK_st (k : Nat) (a b : R) : mulK k (st a) b = st (mulK k a b) := by
  induction k generalizing a b with
  | zero => exact st_zero.symm
  | succ k ih =>
    show (if b.msb then st a else 0#32) ^^^ mulK k (st (st a)) (b <<< 1) = st ((if b.msb then a else 0#32) ^^^ mulK k (st a) (b <<< 1))
    rw [st_xor, st_ite, ih]
theorem mul_stn (n : Nat) (a b : R) : mul (stn n a) b = stn n (mul a b) := by
  induction n generalizing a with
  | zero => rfl
  | succ n ih => show mul (stn n (st a)) b = _; rw [ih]; unfold mul; rw [mulK_st]; rfl
def one : R := 0x80000000#32
theorem st_bit (k : Nat) (h : k + 1 < 32) : st (1#32 <<< (k + 1)) = 1#32 <<< k := by
  have : ∀ j : Fin 31, st (1#32 <<< (j.val + 1)) = 1#32 <<< j.val := by decide
  exact this ⟨k, by omega⟩
theorem mulK_unit (k : Nat) (h : k < 32) (b : R) : mulK (k + 1) (1#32 <<< k) b = b >>> (31 - k) := by
  induction k generalizing b with
  | zero =>
    show (if b.msb then 1#32 <<< 0 else 0#32) ^^^ 0#32 = b >>> 31
    rw [BitVec.msb_eq_getLsbD_last]
    apply BitVec.eq_of_getLsbD_eq
    intro i hi
    simp only [BitVec.getLsbD_ushiftRight]
    cases i with
    | zero => cases b.getLsbD 31 <;> simp
    | succ i =>
      rw [BitVec.getLsbD_of_ge b (31 - 0 + (i + 1)) (by omega)]
      split <;> simp
  | succ k ih =>
    have e : mulK (k + 1 + 1) (1#32 <<< (k + 1)) b = (if b.msb then 1#32 <<< (k + 1) else 0#32) ^^^ mulK (k + 1) (st (1#32 <<< (k + 1))) (b <<< 1) := rfl
    rw [e, st_bit k h, ih (by omega), BitVec.msb_eq_getLsbD_last]
    apply BitVec.eq_of_getLsbD_eq
    intro i hi
    simp only [BitVec.getLsbD_xor, BitVec.getLsbD_ushiftRight, BitVec.getLsbD_shiftLeft]
    have h1 : (if b.getLsbD (32 - 1) = true then 1#32 <<< (k + 1) else 0#32).getLsbD i = (b.getLsbD 31 && decide (i = k + 1)) := by
      split
      · rename_i hb
        rw [show (31 : Nat) = 32 - 1 from rfl, hb]
        simp only [BitVec.getLsbD_shiftLeft, BitVec.getLsbD_one]
        by_cases hik : i = k + 1
        · simp [hik, h]
        · simp [hik, hi]
          omega
      · rename_i hb
        have : b.getLsbD 31 = false := Bool.eq_false_iff.mpr hb
        rw [this, Bool.false_and, BitVec.getLsbD_zero]
    rw [h1]
    by_cases hik : i = k + 1
    · subst hik
      have : ¬ (31 - k + (k + 1) < 32) := by omega
      have e3 : 31 - (k + 1) + (k + 1) = 31 := by omega
      rw [e3]
      simp only [this, decide_true, decide_false, Bool.and_true, Bool.false_and, Bool.bne_false]
    · simp only [hik, decide_false, Bool.and_false, Bool.false_bne]
      by_cases hlt : 31 - k + i < 32
      · have e4 : 31 - k + i - 1 = 31 - (k + 1) + i := by omega
        have e5 : ¬ (31 - k + i < 1) := by omega
        simp [hlt, e4, e5]
      · have e6 : 32 ≤ 31 - (k + 1) + i := by omega
        rw [BitVec.getLsbD_of_ge b _ e6]
        simp [hlt]
theorem mul_unit (b : R) : mul one b = b := by
  have := mulK_unit 31 (by omega) b
  rw [show (31 - 31 : Nat) = 0 from rfl, BitVec.ushiftRight_zero, show (1#32 : R) <<< 31 = one from by decide] at this
  exact this
theorem mul_mulK (k : Nat) (c a b : R) : mul (mulK k c a) b = mulK k (mul c b) a := by
  induction k generalizing c a with
  | zero => exact mulK_zero_left 32 b
  | succ k ih =>
    show mul ((if a.msb then c else 0#32) ^^^ mulK k (st c) (a <<< 1)) b = (if a.msb then mul c b else 0#32) ^^^ mulK k (st (mul c b)) (a <<< 1)
    have e1 : ∀ x y : R, mul (x ^^^ y) b = mul x b ^^^ mul y b := fun x y => mulK_xor 32 x y b
    have e2 : mul (if a.msb then c else 0#32) b = if a.msb then mul c b else 0#32 := by
      cases a.msb
      · exact mulK_zero_left 32 b
      · rfl
    rw [e1, e2, ih]
    congr 2
    exact mulK_st 32 c b
theorem mul_comm (a b : R) : mul a b = mul b a := by
  have := mul_mulK 32 one a b
  rw [mul_unit] at this
  have e : mulK 32 one a = a := mul_unit a
  rw [e] at this
  exact this
/-- What n shifts make of a register, as a factor. -/
def pow (n : Nat) : R := stn n one
theorem mul_pow (a : R) (n : Nat) : mul a (pow n) = stn n a := by rw [mul_comm, pow, mul_stn, mul_unit]
theorem pow_mul (m n : Nat) : mul (pow m) (pow n) = pow (m + n) := by rw [mul_pow, pow, ← stn_add]; rfl
theorem pow_eight : pow 8 = 0x00800000#32 := by decide
theorem pow_zero : pow 0 = 0x80000000#32 := by decide

/-- The rounds of the product's loop. -/
def rounds : Nat → R → Nat
  | 0, _ => 0
  | k + 1, b => if b = 0#32 then 0 else 1 + rounds k (b <<< 1)
theorem rounds_more (k : Nat) (b : R) (h : b <<< k = 0#32) : rounds (k + 1) b = rounds k b := by
  induction k generalizing b with
  | zero =>
    have : b = 0#32 := by simpa using h
    simp [rounds, this]
  | succ k ih =>
    have : rounds (k + 1 + 1) b = if b = 0#32 then 0 else 1 + rounds (k + 1) (b <<< 1) := rfl
    rw [this, ih (b <<< 1) (by rw [← BitVec.shiftLeft_add, Nat.add_comm]; exact h)]
    rfl
theorem rounds_step (b : R) (h : b ≠ 0#32) : rounds 32 (b <<< 1) < rounds 32 b := by
  have e : rounds 32 b = 1 + rounds 31 (b <<< 1) := by
    show (if b = 0#32 then 0 else 1 + rounds 31 (b <<< 1)) = _
    rw [if_neg h]
  have e2 : rounds 32 (b <<< 1) = rounds 31 (b <<< 1) := rounds_more 31 _ (by rw [← BitVec.shiftLeft_add]; simp)
  omega

/-- One bit turned. -/
def flip (l : List UInt8) (p : Nat) : List UInt8 := l.set (p / 8) (l.getD (p / 8) 0 ^^^ UInt8.ofNat (2 ^ (p % 8)))
theorem ofB_xor (a b : UInt8) : ofB (a ^^^ b) = ofB a ^^^ ofB b := by
  unfold ofB
  apply BitVec.eq_of_toNat_eq
  have ha := a.toNat_lt
  have hb := b.toNat_lt
  have hx : a.toNat ^^^ b.toNat < 2 ^ 8 := Nat.xor_lt_two_pow (by omega) (by omega)
  rw [UInt8.toNat_xor, BitVec.toNat_xor]
  simp only [BitVec.toNat_ofNat]
  rw [Nat.mod_eq_of_lt (by omega), Nat.mod_eq_of_lt (by omega), Nat.mod_eq_of_lt (by omega)]
theorem stn_bit (k : Nat) (h : k < 8) : stn 8 (ofB (UInt8.ofNat (2 ^ k))) = stn (8 - k) 1#32 := by
  have : ∀ j : Fin 8, stn 8 (ofB (UInt8.ofNat (2 ^ j.val))) = stn (8 - j.val) 1#32 := by decide
  exact this ⟨k, h⟩
theorem runB_flip (c : R) (l : List UInt8) (p : Nat) (h : p < 8 * l.length) : runB c (flip l p) = runB c l ^^^ stn (8 * l.length - p) 1#32 := by
  have hq : p / 8 < l.length := by omega
  generalize hq' : p / 8 = q at hq
  generalize hk : p % 8 = k
  have hk8 : k < 8 := by omega
  have e0 : 8 * l.length - p = (8 - k) + 8 * (l.length - q - 1) := by omega
  unfold flip
  rw [hq', hk, e0]
  clear e0 hk hq' h
  induction q generalizing c l with
  | zero =>
    cases l with
    | nil => simp at hq
    | cons b l =>
      show runB (stn 8 (c ^^^ ofB (b ^^^ UInt8.ofNat (2 ^ k)))) l = runB (stn 8 (c ^^^ ofB b)) l ^^^ _
      rw [ofB_xor, ← BitVec.xor_assoc, stn_xor, runB_xor, stn_bit k hk8, ← stn_add]
      simp
  | succ q ih =>
    cases l with
    | nil => simp at hq
    | cons b l =>
      have := ih (stn 8 (c ^^^ ofB b)) l (by simpa using hq)
      show runB (stn 8 (c ^^^ ofB b)) (l.set q (l.getD q 0 ^^^ UInt8.ofNat (2 ^ k))) = runB (stn 8 (c ^^^ ofB b)) l ^^^ _
      rw [this]
      congr 3
      simp
theorem flip_length (l : List UInt8) (p : Nat) : (flip l p).length = l.length := by simp [flip]
theorem stn_low (i : Nat) (h : i < 32) : stn i (1#32 <<< i) = 1#32 := by
  have : ∀ j : Fin 32, stn j.val (1#32 <<< j.val) = 1#32 := by decide +kernel
  exact this ⟨i, h⟩
/-- A bit that comes i bits later is the i-th of a register that comes at once. -/
theorem stn_late (m i : Nat) (h : i < 32) (hm : i ≤ m) : stn (m - i) 1#32 = stn m (1#32 <<< i) := by
  have : m = i + (m - i) := by omega
  conv => rhs; rw [this]
  rw [stn_add, stn_low i h]
/-- The bits of a pattern below the i-th. -/
def low (p : Nat) (i : Nat) : R := BitVec.ofNat 32 (p % 2 ^ i)
theorem low_succ (p i : Nat) (hi : i < 32) : low p (i + 1) = if p / 2 ^ i % 2 = 1 then low p i ^^^ (1#32 <<< i) else low p i := by
  unfold low
  apply BitVec.eq_of_getLsbD_eq
  intro j hj
  have e : (BitVec.ofNat 32 (p % 2 ^ (i + 1))).getLsbD j = (decide (j < i + 1) && p.testBit j) := by
    rw [BitVec.getLsbD_ofNat, Nat.testBit_mod_two_pow]; simp [hj]
  have e2 : (BitVec.ofNat 32 (p % 2 ^ i)).getLsbD j = (decide (j < i) && p.testBit j) := by
    rw [BitVec.getLsbD_ofNat, Nat.testBit_mod_two_pow]; simp [hj]
  have e3 : p.testBit i = decide (p / 2 ^ i % 2 = 1) := by
    rw [Nat.testBit_eq_decide_div_mod_eq]
  rw [e]
  split
  · rename_i h
    rw [BitVec.getLsbD_xor, e2, BitVec.getLsbD_shiftLeft, BitVec.getLsbD_one]
    by_cases hji : j = i
    · subst hji
      rw [e3]
      simp [h, hj]
    · by_cases hlt : j < i
      · simp [hlt, Nat.lt_succ_of_lt hlt]
      · have : ¬ j < i + 1 := by omega
        have h2 : ¬ (j - i = 0) := by omega
        simp [hlt, this, h2]
  · rename_i h
    rw [e2]
    by_cases hji : j = i
    · subst hji
      rw [e3]
      simp [h]
    · by_cases hlt : j < i
      · simp [hlt, Nat.lt_succ_of_lt hlt]
      · have : ¬ j < i + 1 := by omega
        simp [hlt, this]
theorem low_zero (p : Nat) : low p 0 = 0#32 := by unfold low; simp [Nat.mod_one]
theorem low_all (p : Nat) (h0 : 0 < p) (h : p < 2 ^ 32) : low p 32 ≠ 0#32 := by
  unfold low
  intro e
  have := congrArg BitVec.toNat e
  simp at this
  omega
/-- A burst turns the sum. -/
theorem burst_ne (l m : List UInt8) (n p : Nat) (h0 : 0 < p) (h : p < 2 ^ 32) (e : runB ones m = runB ones l ^^^ stn n (low p 32)) : sumB m ≠ sumB l := by
  intro hs
  unfold sumB at hs
  have h1 : runB ones m = runB ones l := by
    have := congrArg (· ^^^ ones) hs
    simpa [xor_xor] using this
  rw [h1] at e
  have h2 : stn n (low p 32) = 0#32 := by
    have := congrArg (runB ones l ^^^ ·) e
    simp only [← BitVec.xor_assoc, BitVec.xor_self] at this
    simpa using this.symm
  exact low_all p h0 h (stn_eq_zero _ _ h2)
theorem sum_example : sumB [49, 50, 51, 52, 53, 54, 55, 56, 57] = 0xe3069283#32 := by decide +kernel
end Go.Proofs.YtgcfbjecmmnlhaaGreat.Sm

namespace Go.Proofs.YtgcfbjecmmnlhaaGreat.Sm
open Go.RowKit
set_option linter.unusedVariables false
set_option linter.unusedSimpArgs false
set_option maxRecDepth 100000

def vI (c : R) : Int := c.toNat
theorem vI_nonneg (c : R) : 0 ≤ vI c := Int.natCast_nonneg _
theorem vI_lt (c : R) : vI c < 4294967296 := by unfold vI; have := c.isLt; omega
theorem ofInt_vI (c : R) : BitVec.ofInt 32 (vI c) = c := by unfold vI; rw [BitVec.ofInt_natCast, BitVec.ofNat_toNat]; simp
theorem vI_inj {a b : R} (h : vI a = vI b) : a = b := by unfold vI at h; exact BitVec.eq_of_toNat_eq (by omega)
theorem vI_lit (n : Nat) (h : n < 4294967296) : vI (BitVec.ofNat 32 n) = n := by unfold vI; rw [BitVec.toNat_ofNat]; omega
theorem xor32 (a b : R) : bits .xor .u32 (vI a) (vI b) = vI (a ^^^ b) := by
  show IntKind.u32.wrap ((BitVec.ofInt 32 (vI a) ^^^ BitVec.ofInt 32 (vI b)).toNat : Int) = _
  rw [ofInt_vI, ofInt_vI, IntKind.wrap_u32]
  have := vI_lt (a ^^^ b)
  have := vI_nonneg (a ^^^ b)
  unfold vI at *
  omega
theorem and32 (a b : R) : bits .and .u32 (vI a) (vI b) = vI (a &&& b) := by
  show IntKind.u32.wrap ((BitVec.ofInt 32 (vI a) &&& BitVec.ofInt 32 (vI b)).toNat : Int) = _
  rw [ofInt_vI, ofInt_vI, IntKind.wrap_u32]
  have := vI_lt (a &&& b)
  have := vI_nonneg (a &&& b)
  unfold vI at *
  omega
theorem shr32 (c : R) : vI c / (2 : Int) = vI (c >>> 1) := by unfold vI; rw [BitVec.toNat_ushiftRight, Nat.shiftRight_eq_div_pow]; omega
theorem shr32_4 (c : R) : vI c / (16 : Int) = vI (c >>> 4) := by unfold vI; rw [BitVec.toNat_ushiftRight, Nat.shiftRight_eq_div_pow]; omega
theorem shl32 (c : R) : vI c * (2 : Int) % (4294967296 : Int) = vI (c <<< 1) := by unfold vI; rw [BitVec.toNat_shiftLeft, Nat.shiftLeft_eq]; omega
theorem vI_eq_zero (c : R) : vI c = 0 ↔ c = 0#32 := by
  constructor
  · intro h; exact vI_inj (h.trans (vI_lit 0 (by omega)).symm)
  · rintro rfl; rfl
theorem and_one (c : R) : c &&& 1#32 = if c.getLsbD 0 then 1#32 else 0#32 := by
  apply BitVec.eq_of_getLsbD_eq
  intro i hi
  rw [BitVec.getLsbD_and, BitVec.getLsbD_one]
  by_cases h : i = 0
  · subst h
    cases c.getLsbD 0 <;> simp
  · simp only [h, decide_false, Bool.and_false]
    split
    · rw [BitVec.getLsbD_one]; simp [h]
    · simp
theorem and_top (c : R) : c &&& one = if c.msb then one else 0#32 := by
  have e : one = 1#32 <<< 31 := by decide
  rw [e]
  apply BitVec.eq_of_getLsbD_eq
  intro i hi
  rw [BitVec.msb_eq_getLsbD_last, BitVec.getLsbD_and]
  have e2 : (1#32 <<< 31 : R).getLsbD i = decide (i = 31) := by
    have : ∀ j : Fin 32, (1#32 <<< 31 : R).getLsbD j.val = decide (j.val = 31) := by decide
    exact this ⟨i, hi⟩
  rw [e2]
  by_cases h : i = 31
  · subst h
    show _ = (if c.getLsbD 31 = true then _ else _ : R).getLsbD 31
    cases hc : c.getLsbD 31
    · rfl
    · simp [e2]
  · simp only [h, decide_false, Bool.and_false]
    split
    · rw [e2]; simp [h]
    · simp
theorem odd_test (c : R) (h : c.getLsbD 0 = true) : (bits .and .u32 (vI c) 1 == 0) = false := by
  have : (1 : Int) = vI 1#32 := rfl
  rw [this, and32, and_one, h]
  rfl
theorem even_test (c : R) (h : c.getLsbD 0 = false) : (bits .and .u32 (vI c) 1 == 0) = true := by
  have : (1 : Int) = vI 1#32 := rfl
  rw [this, and32, and_one, h]
  rfl
theorem top_test (c : R) : (bits .and .u32 (vI c) 2147483648 != 0) = c.msb := by
  have : (2147483648 : Int) = vI one := rfl
  rw [this, and32, and_top]
  cases c.msb <;> rfl
theorem zero_test (c : R) : (vI c != 0) = !(c == 0#32) := by
  by_cases h : c = 0#32
  · subst h; rfl
  · have h1 : vI c ≠ 0 := fun e => h ((vI_eq_zero c).mp e)
    rw [bne, beq_eq_false_iff_ne.mpr h1, beq_eq_false_iff_ne.mpr h]

theorem shift_any (c : R) (w : World) :
    Calls Tryz.prog 121 #[.int .u32 (vI c)] w fun e w' => e = .returned (.int .u32 (vI (st c))) ∧ w' = w := by
  cases h : c.getLsbD 0
  · have h1 := even_test c h
    have e1 : Hid _ := shr32 c
    have e2 : Hid (st c = c >>> 1) := by show st c = _; unfold st; rw [h]; rfl
    clear h
    go_enter Tryz.func121, Tryz.ntmps121
    go_wp2
    go_ret
    rw [e1.out, e2.out]
    exact ⟨rfl, rfl⟩
  · have h1 := odd_test c h
    have e1 : Hid _ := shr32 c
    have e2 : Hid (st c = c >>> 1 ^^^ taps) := by show st c = _; unfold st; rw [h]; rfl
    have e3 : Hid _ := xor32 (c >>> 1) taps
    clear h
    go_enter Tryz.func121, Tryz.ntmps121
    go_wp2
    go_ret
    rw [e1.out, e2.out, ← e3.out]
    exact ⟨rfl, rfl⟩
theorem ofInt64 (a : Nat) (ha : a < 18446744073709551616) : (BitVec.ofInt 64 (a : Int)).toNat = a := by
  rw [BitVec.ofInt_natCast, BitVec.toNat_ofNat]
  exact Nat.mod_eq_of_lt (by omega)
theorem and64_one (m : Int) (h0 : 0 ≤ m) (h1 : m < 9223372036854775808) : bits .and .i64 m 1 = m % 2 := by
  obtain ⟨a, rfl⟩ := Int.eq_ofNat_of_zero_le h0
  show IntKind.i64.wrap ((BitVec.ofInt 64 (a : Int) &&& BitVec.ofInt 64 ((1 : Nat) : Int)).toNat : Int) = _
  rw [BitVec.toNat_and, ofInt64 a (by omega), ofInt64 1 (by omega), Nat.and_one_is_mod, IntKind.wrap_i64]
  omega
theorem xor64 (a b : R) : bits .xor .i64 (vI a) (vI b) = vI (a ^^^ b) := by
  have ha := a.isLt
  have hb := b.isLt
  have hx := (a ^^^ b).isLt
  unfold vI
  show IntKind.i64.wrap ((BitVec.ofInt 64 (a.toNat : Int) ^^^ BitVec.ofInt 64 (b.toNat : Int)).toNat : Int) = _
  rw [BitVec.toNat_xor, ofInt64 _ (by omega), ofInt64 _ (by omega), ← BitVec.toNat_xor, IntKind.wrap_i64]
  omega
theorem wrap64_vI (c : R) : wrap64 (vI c) = vI c := by
  have h1 := vI_nonneg c
  have h2 := vI_lt c
  unfold wrap64
  omega
def isS (n : Int) : Bool := decide (0 ≤ n) && decide (n ≤ 4294967295)
theorem isS_vI (a : R) : isS (vI a) = true := by
  have h1 := vI_nonneg a
  have h2 := vI_lt a
  unfold isS
  simp
  omega
end Go.Proofs.YtgcfbjecmmnlhaaGreat.Sm

namespace Go.Proofs.YtgcfbjecmmnlhaaGreat.Sm
open Go.RowKit
set_option linter.unusedVariables false
set_option linter.unusedSimpArgs false
set_option maxRecDepth 100000

/-- The table, of which the first i are laid. -/
def tab (i : Nat) : Array Value := (Array.range 16).map fun j => .int .u32 (vI (if j < i then stn 4 (BitVec.ofNat 32 j) else 0#32))
theorem tab_size (i : Nat) : (tab i).size = 16 := by simp [tab]
theorem tab_get (i j : Nat) (h : j < 16) : (tab i)[j]? = some (.int .u32 (vI (if j < i then stn 4 (BitVec.ofNat 32 j) else 0#32))) := by
  unfold tab
  rw [Array.getElem?_map, Array.getElem?_range]
  simp [h]
theorem range16 : Array.range 16 = #[0, 1, 2, 3, 4, 5, 6, 7, 8, 9, 10, 11, 12, 13, 14, 15] := by decide
theorem tab_zero : #[.int .u32 0, .int .u32 0, .int .u32 0, .int .u32 0, .int .u32 0, .int .u32 0, .int .u32 0, .int .u32 0, .int .u32 0, .int .u32 0, .int .u32 0, .int .u32 0, .int .u32 0, .int .u32 0, .int .u32 0, .int .u32 0] = tab 0 := by
  unfold tab
  rw [range16]
  simp only [List.map_toArray, List.map_cons, List.map_nil]
  rfl
theorem tab_set (i : Nat) (h : i < 16) : (tab i).setIfInBounds i (.int .u32 (vI (stn 4 (BitVec.ofNat 32 i)))) = tab (i + 1) := by
  apply Array.ext_getElem?
  intro j
  by_cases hj : j < 16
  · rw [Array.getElem?_setIfInBounds, tab_get _ _ hj, tab_get _ _ hj, tab_size]
    by_cases hij : i = j
    · subst hij
      simp [h]
    · have : (j < i + 1) = (j < i) := by simp; omega
      simp [hij, this]
  · rw [Array.getElem?_eq_none (by simp [tab_size]; omega), Array.getElem?_eq_none (by simp [tab_size]; omega)]
def xT (j : Nat) : Int := vI (stn 4 (BitVec.ofNat 32 j))
theorem tab_full : tab 16 = #[.int .u32 (xT 0), .int .u32 (xT 1), .int .u32 (xT 2), .int .u32 (xT 3), .int .u32 (xT 4), .int .u32 (xT 5), .int .u32 (xT 6), .int .u32 (xT 7), .int .u32 (xT 8), .int .u32 (xT 9), .int .u32 (xT 10), .int .u32 (xT 11), .int .u32 (xT 12), .int .u32 (xT 13), .int .u32 (xT 14), .int .u32 (xT 15)] := by
  unfold tab
  rw [range16]
  simp only [List.map_toArray, List.map_cons, List.map_nil]
  rfl

theorem fourShifts_any (w : World) :
    Calls Tryz.prog 116 #[] w fun e w' => e = .returned (.agg (tab 16)) ∧ Below w.heap.size w w' := by
  go_enter Tryz.func116, Tryz.ntmps116
  go_wp2
  rw [tab_zero]
  go_loopw [4] (fun x wr => ∃ i : Nat, i ≤ 16 ∧ x = .int .i64 i ∧ wr = (w.alloc (.cells (tab 0) 166)).alloc (.cells (tab i) 166)) (fun x _ => 16 - (intOf x).toNat)
  case atStart => exact ⟨0, by omega, rfl, rfl⟩
  case round =>
    obtain ⟨i, hi, rfl, rfl⟩ := hrel
    by_cases hlt : i < 16
    · have hd : decide ((i : Int) < 16) = true := by simp; omega
      have hg := tab_get i i hlt
      rw [if_neg (Nat.lt_irrefl i)] at hg
      go_wp2
      go_loop [3, 9] (fun r j => ∃ k : Nat, k ≤ 4 ∧ j = .int .i64 k ∧ r = .int .u32 (vI (stn k (BitVec.ofNat 32 i)))) (fun _ j => 4 - (intOf j).toNat)
      case atStart =>
        refine ⟨0, by omega, rfl, ?_⟩
        show _ = Value.int .u32 (vI (BitVec.ofNat 32 i))
        rw [vI_lit i (by omega)]
      case round =>
        obtain ⟨k, hk, rfl, rfl⟩ := hrel
        by_cases hlt2 : k < 4
        · go_wp2_with (go_at_call 121; refine (shift_any _ _).mono ?_; rintro e w' ⟨rfl, rfl⟩)
          go_round
          case rel => exact ⟨k + 1, by omega, by go_num, by rw [stn_succ]⟩
          case measure => simp [intOf]; omega
        · have : k = 4 := by omega
          subst this
          go_wp2
          go_roundw
          case rel => 
            exact ⟨i + 1, by omega, by go_num, by rw [← tab_set i hlt]⟩
          case measure => simp [intOf]; omega
    · have : i = 16 := by omega
      subst this
      rw [tab_full, ← tab_zero]
      go_wp2
      refine bodyPost_ret (v := .agg (tab 16)) ?_ rfl ⟨rfl, ?_⟩
      · rw [tab_full]
        simp [results, Tryz.results19, go_sem]
      · exact ((Below.refl _ _).alloc (Nat.le_refl _) _).alloc (by simp) _
theorem fourShifts_lit (w : World) :
    Calls Tryz.prog 116 #[] w fun e w' => e = .returned (.agg #[.int .u32 (xT 0), .int .u32 (xT 1), .int .u32 (xT 2), .int .u32 (xT 3), .int .u32 (xT 4), .int .u32 (xT 5), .int .u32 (xT 6), .int .u32 (xT 7), .int .u32 (xT 8), .int .u32 (xT 9), .int .u32 (xT 10), .int .u32 (xT 11), .int .u32 (xT 12), .int .u32 (xT 13), .int .u32 (xT 14), .int .u32 (xT 15)]) ∧ Below w.heap.size w w' := by
  have := fourShifts_any w
  rw [tab_full] at this
  exact this
end Go.Proofs.YtgcfbjecmmnlhaaGreat.Sm

namespace Go.Proofs.YtgcfbjecmmnlhaaGreat.Sm
open Go.RowKit
set_option linter.unusedVariables false
set_option linter.unusedSimpArgs false
set_option maxRecDepth 100000

theorem ofB_vI (b : UInt8) : (b.toNat : Int) = vI (ofB b) := by
  unfold vI ofB
  have := b.toNat_lt
  rw [BitVec.toNat_ofNat]
  omega
theorem ofB_mod (b : UInt8) : (b.toNat : Int) % 4294967296 = vI (ofB b) := by
  rw [← ofB_vI]
  have := b.toNat_lt
  omega
/-- One half of a byte, as the program steps. -/
theorem half_facts (c : R) : ∃ (n : Nat) (s d : R), bits .and .u32 (vI c) 15 = (n : Int) ∧ n < 16 ∧ (tab 16)[n]? = some (.int .u32 (vI d)) ∧ vI c / (16 : Int) = vI s ∧ bits .xor .u32 (vI s) (vI d) = vI (stn 4 c) := by
  have e15 : (15 : Int) = vI 15#32 := rfl
  have hlt : (c &&& 15#32).toNat < 16 := by
    rw [BitVec.toNat_and]
    have : c.toNat &&& (15#32).toNat ≤ 15 := Nat.and_le_right
    omega
  refine ⟨(c &&& 15#32).toNat, c >>> 4, stn 4 (c &&& 15#32), ?_, hlt, ?_, shr32_4 c, ?_⟩
  · rw [e15, and32]; rfl
  · rw [tab_get 16 _ hlt, if_pos hlt, BitVec.ofNat_toNat]
    simp
  · rw [xor32, ← four_steps]
theorem not32 (n : Int) : bits .xor .u32 IntKind.u32.max (n % 4294967296) = vI (BitVec.ofInt 32 n ^^^ ones) := by
  have e1 : IntKind.u32.max = vI ones := rfl
  have e2 : n % 4294967296 = vI (BitVec.ofInt 32 n) := by
    unfold vI
    rw [BitVec.toNat_ofInt]
    omega
  rw [e1, e2, xor32, BitVec.xor_comm]
theorem not32_vI (c : R) : bits .xor .u32 IntKind.u32.max (vI c) = vI (c ^^^ ones) := by
  have e1 : IntKind.u32.max = vI ones := rfl
  rw [e1, xor32, BitVec.xor_comm]
theorem take_snoc (s : ByteArray) (k : Nat) (h : k < s.size) : s.data.toList.take (k + 1) = s.data.toList.take k ++ [s[k]] := by
  rw [List.take_succ_eq_append_getElem (by simpa using h)]; rfl
theorem bytesRow_cell (w : World) (s : ByteArray) (c m : Nat) (k : Nat) (h : k < s.size) :
    (w.alloc (.cells (bytesRow s c) 5 (m, m + 1))).cell? ⟨w.heap.size, k, none⟩ = some (.int .u8 (s[k].toNat : Int)) := by
  rw [World.cell?_alloc_mark]
  have h' : k < s.data.size := h
  simp only [bytesRow]
  rw [Array.getElem?_append_left (by simpa using h')]
  rw [Array.getElem?_map, Array.getElem?_eq_getElem h']
  rfl
theorem runB_snoc (c : R) (l : List UInt8) (b : UInt8) : runB c (l ++ [b]) = stn 4 (stn 4 (runB c l ^^^ ofB b)) := by
  rw [runB_append, ← stn_add]
  rfl
theorem More_any (n : Int) (s : ByteArray) (w : World) (hs : s.size ≤ 281474976710656) :
    Calls Tryz.prog 103 #[.int .i64 n, .string s] w fun e w' => e = .returned (.int .i64 (vI (moreB (BitVec.ofInt 32 n) s.data.toList))) ∧ Below w.heap.size w w' := by
  have hcv := fun w s => run_bytes_of_string (P := Tryz.prog) w 9 83 5 s Tryz.underlying9 Tryz.underlying83 Tryz.underlying5
  obtain ⟨C, hC⟩ : ∃ C, BitVec.ofInt 32 n ^^^ ones = C := ⟨_, rfl⟩
  have h0 := not32 n
  have hm : moreB (BitVec.ofInt 32 n) s.data.toList = runB C s.data.toList ^^^ ones := by rw [moreB, hC]
  rw [hC] at h0
  rw [hm]
  clear hm hC
  go_enter Tryz.func103, Tryz.ntmps103
  go_wp2_with (go_at_call 116; refine (fourShifts_lit _).mono ?_; rintro e w1 ⟨rfl, hb1⟩)
  rw [← tab_full]
  generalize grownCap (w1.alloc (Obj.cells (tab 16) 166)) s.size 0 5 = gc
  have hrow : ∀ j (hj : j < s.size), ((w1.alloc (Obj.cells (tab 16) 166)).alloc (Obj.cells (bytesRow s gc) 5 ((bytesRow s gc).size, (bytesRow s gc).size + 1))).drew.cell? ⟨w1.heap.size + 1, j, none⟩ = some (.int .u8 (s[j].toNat : Int)) := by
    intro j hj
    have := bytesRow_cell (w1.alloc (Obj.cells (tab 16) 166)) s gc (bytesRow s gc).size j hj
    simpa [go_sem] using this
  have htab : ∀ j, ((w1.alloc (Obj.cells (tab 16) 166)).alloc (Obj.cells (bytesRow s gc) 5 ((bytesRow s gc).size, (bytesRow s gc).size + 1))).drew.cell? ⟨w1.heap.size, j, none⟩ = (tab 16)[j]? := by
    intro j
    simp [go_sem]
  have hbel : Below w.heap.size w ((w1.alloc (Obj.cells (tab 16) 166)).alloc (Obj.cells (bytesRow s gc) 5 ((bytesRow s gc).size, (bytesRow s gc).size + 1))).drew :=
    ((hb1.alloc hb1.size _).alloc (by have := hb1.size; simp; omega) _).drew
  generalize ((w1.alloc (Obj.cells (tab 16) 166)).alloc (Obj.cells (bytesRow s gc) 5 ((bytesRow s gc).size, (bytesRow s gc).size + 1))).drew = W at hrow htab hbel ⊢
  have HR : Hid _ := hrow
  have HT : Hid _ := htab
  have HB : Hid _ := hbel
  clear hrow htab hbel hcv
  go_loop [6, 16] (fun r i => ∃ j : Nat, j ≤ s.size ∧ i = .int .i64 j ∧ r = .int .u32 (vI (runB C (s.data.toList.take j)))) (fun _ i => s.size - (intOf i).toNat)
  case atStart => exact ⟨0, Nat.zero_le _, rfl, rfl⟩
  case round =>
    obtain ⟨j, hj, rfl, rfl⟩ := hrel
    by_cases hlt : j < s.size
    · have hc := HR.out j hlt
      have HS : Hid _ := runB_snoc C (s.data.toList.take j) s[j]
      have HS2 : Hid _ := take_snoc s j hlt
      have e1 := xor32 (runB C (s.data.toList.take j)) (ofB s[j])
      rw [← ofB_mod] at e1
      generalize runB C (s.data.toList.take j) = c0 at *
      generalize c0 ^^^ ofB s[j] = c1 at *
      obtain ⟨n1, s1, d1, f1, g1, t1, k1, x1⟩ := half_facts c1
      have T1 := HT.out n1
      rw [t1] at T1
      generalize stn 4 c1 = c2 at *
      obtain ⟨n2, s2, d2, f2, g2, t2, k2, x2⟩ := half_facts c2
      have T2 := HT.out n2
      rw [t2] at T2
      generalize stn 4 c2 = c3 at *
      clear t1 t2
      go_wp2
      go_round
      case rel => exact ⟨j + 1, by omega, by go_num, by rw [HS2.out, HS.out]⟩
      case measure => simp [intOf]; omega
    · have hn := not32_vI (runB C (s.data.toList.take j))
      have hw := wrap64_vI (runB C (s.data.toList.take j) ^^^ ones)
      rw [List.take_of_length_le (by simp; omega)] at *
      go_wp2
      go_ret
      exact ⟨rfl, HB.out⟩
end Go.Proofs.YtgcfbjecmmnlhaaGreat.Sm

namespace Go.Proofs.YtgcfbjecmmnlhaaGreat.Sm
open Go.RowKit
set_option linter.unusedVariables false
set_option linter.unusedSimpArgs false
set_option maxRecDepth 100000

theorem Sum_any (s : ByteArray) (w : World) (hs : s.size ≤ 281474976710656) :
    Calls Tryz.prog 79 #[.string s] w fun e w' => e = .returned (.int .i64 (vI (sumB s.data.toList))) ∧ Below w.heap.size w w' := by
  have C1 : Hid (∀ w, Calls Tryz.prog 103 #[.int .i64 0, .string s] w fun e w' => e = .returned (.int .i64 (vI (sumB s.data.toList))) ∧ Below w.heap.size w w') := by
    intro w
    have := More_any 0 s w hs
    rw [show BitVec.ofInt 32 0 = 0#32 from rfl, more_zero] at this
    exact this
  clear hs
  go_enter Tryz.func79, Tryz.ntmps79
  go_wp2_with (go_at_call 103; refine (C1.out _).mono ?_; rintro e w1 ⟨rfl, hb1⟩)
  go_ret
  exact ⟨rfl, hb1⟩

theorem ofB_wrap (b : UInt8) : wrap64 (b.toNat : Int) = vI (ofB b) := by
  rw [ofB_vI, wrap64_vI]
theorem quo_two (c : R) : wrap64 ((vI c).tdiv 2) = vI (c >>> 1) := by
  rw [Int.tdiv_eq_ediv_of_nonneg (vI_nonneg c), shr32, wrap64_vI]
theorem mod_two (c : R) : vI c % (2 : Int) = if c.getLsbD 0 then 1 else 0 := by
  unfold vI
  have : c.getLsbD 0 = decide (c.toNat % 2 = 1) := by
    rw [BitVec.getLsbD, Nat.testBit_zero]
  rw [this]
  by_cases h : c.toNat % 2 = 1
  · simp [h]; omega
  · simp [h]; omega
def cutV (s : ByteArray) : ByteArray := if 3000 < s.size then s.extract 0 3000 else s
theorem cutV_size (s : ByteArray) : (cutV s).size ≤ 3000 := by
  unfold cutV
  split
  · rw [ByteArray.size_extract]; omega
  · omega
end Go.Proofs.YtgcfbjecmmnlhaaGreat.Sm

namespace Go.Proofs.YtgcfbjecmmnlhaaGreat.Sm
open Go.RowKit Go.Proofs.YtgcfbjecmmnlhaaGreat.Pk
set_option linter.unusedVariables false
set_option linter.unusedSimpArgs false
set_option maxRecDepth 100000

def sumI (s : ByteArray) : Int := vI (sumB s.data.toList)

theorem Sum_I (s : ByteArray) (w : World) (hs : s.size ≤ 281474976710656) :
    Calls Tryz.prog 79 #[.string s] w fun e w' => e = .returned (.int .i64 (sumI s)) ∧ Below w.heap.size w w' := Sum_any s w hs

theorem below_dr {b : Nat} {a w : World} (h : Below b a w) (n : Nat) : Below b a (w.drewN n) := ⟨h.os, h.tape, h.output, h.size, h.block⟩

theorem nil_append (s : ByteArray) : (⟨#[]⟩ : ByteArray) ++ s = s := by apply ByteArray.ext; simp [ByteArray.data_append]

theorem Put_four (n : Int) (w : World) (h0 : 0 ≤ n) (hn : n < 4294967296) :
    Calls Tryz.prog 52 #[.string ⟨#[]⟩, .int .i64 n, .int .i64 4] w fun e w' => e = .returned (.tuple #[.string (beS n.toNat 4), .int .i64 0]) ∧ Below w.heap.size w w' := by
  have hz : (beS n.toNat 4).size ≤ 6 := by rw [beS_size]; omega
  have C1 : Hid (∀ w, Calls Tryz.prog 78 #[.int .i64 n, .int .i64 4] w fun e w' => e = .returned (.string (beS n.toNat 4)) ∧ Below w.heap.size w w') := by
    intro w
    have h := num_4 n.toNat w (by omega)
    rw [Int.toNat_of_nonneg h0] at h
    exact h
  go_enter Tryz.func52, Tryz.ntmps52
  go_wp2_with (first | (go_at_call 77; refine (isWidth_any _ _).mono ?_; rintro e w' ⟨rfl, rfl⟩) | (go_at_call 78; refine (C1.out _).mono ?_; rintro e w1 ⟨rfl, hb⟩))
  go_ret2
  rw [nil_append]
  exact ⟨rfl, hb⟩

theorem Read_any (s : ByteArray) (w : World) :
    Calls Tryz.prog 69 #[.string s] w fun e w' => e = .returned (.pointer (some ⟨w.heap.size, 0, none⟩)) ∧ isRd w' w.heap.size s 0 ∧ Below w.heap.size w w' := by
  go_enter Tryz.func69, Tryz.ntmps69
  go_wp2
  go_ret
  exact ⟨rfl, (MapKept.heap_alloc w _).1, (Below.refl _ _).alloc (Nat.le_refl _) _⟩

theorem sumI_nonneg (s : ByteArray) : 0 ≤ sumI s := vI_nonneg _

theorem sumI_lt (s : ByteArray) : sumI s < 4294967296 := vI_lt _

/-- A text with its sum ahead. -/
def sealV (s : ByteArray) : ByteArray := beS (sumI s).toNat 4 ++ s

theorem Seal_any (s : ByteArray) (w : World) (hs : s.size ≤ 140737488351232) :
    Calls Tryz.prog 53 #[.string s] w fun e w' => e = .returned (.string (sealV s)) ∧ Below w.heap.size w w' := by
  have hz : (beS (sumI s).toNat 4).size ≤ 6 := by rw [beS_size]; omega
  have C1 : Hid _ := fun w => Sum_I s w (by omega)
  have C2 : Hid _ := fun w => Put_four (sumI s) w (sumI_nonneg s) (sumI_lt s)
  have HV : Hid (sealV s = beS (sumI s).toNat 4 ++ s) := by rfl
  generalize sumI s = n at *
  generalize sealV s = v at *
  generalize beS n.toNat 4 = b at *
  go_enter Tryz.func53, Tryz.ntmps53
  go_wp2_with (first | (go_at_call 79; refine (C1.out _).mono ?_; rintro e w1 ⟨rfl, hb1⟩) | (go_at_call 52; refine (C2.out _).mono ?_; rintro e w2 ⟨rfl, hb2⟩))
  go_ret
  rw [HV.out]
  exact ⟨rfl, hb1.trans (hb2.mono hb1.size)⟩

/-- What Open returns. -/
def openV (s : ByteArray) : ByteArray × Int :=
  if s.size < 4 then (⟨#[]⟩, 2) else if sumI (s.extract 4 s.size) = beN (s.extract 0 4).data.toList then (s.extract 4 s.size, 0) else (⟨#[]⟩, 5)

theorem rdNum_four (s : ByteArray) (h : ¬ s.size < 4) : rdNum s 0 4 = (beN (s.extract 0 4).data.toList, s.extract 4 s.size, 0) := by
  have e1 : rdNumSt s 0 4 = (s, 0) := by unfold rdNumSt; rw [if_neg (by omega)]
  have e2 : rdRaw s 0 4 = (s.extract 0 4, s.extract 4 s.size, 0) := rdRaw_fits (by omega) (by omega)
  unfold rdNum
  rw [e1]
  dsimp only
  rw [e2]

theorem rdNum_short (s : ByteArray) (h : s.size < 4) : rdNum s 0 4 = (0, ⟨#[]⟩, 2) := by
  have e1 : rdNumSt s 0 4 = (s, 0) := by unfold rdNumSt; rw [if_neg (by omega)]
  have e2 : rdRaw s 0 4 = (⟨#[]⟩, ⟨#[]⟩, 2) := rdRaw_short (by omega) (by omega)
  unfold rdNum
  rw [e1]
  dsimp only
  rw [e2]
  rfl

theorem rdRaw_all (l : ByteArray) : rdRaw l 0 (l.size : Int) = (l, ⟨#[]⟩, 0) := by
  rw [rdRaw_fits (by omega) (by omega), Int.toNat_natCast]
  have e1 : l.extract 0 l.size = l := by apply ByteArray.ext; simp [ByteArray.data_extract]
  have e2 : l.extract l.size l.size = ⟨#[]⟩ := by apply ByteArray.ext; simp [ByteArray.data_extract]
  rw [e1, e2]

set_option maxHeartbeats 1000000 in
theorem Open_any (s : ByteArray) (w : World) (hs : s.size ≤ 140737488351232) :
    Calls Tryz.prog 85 #[.string s] w fun e w' => e = .returned (.tuple #[.string (openV s).1, .int .i64 (openV s).2]) ∧ Below w.heap.size w w' := by
  unfold openV
  by_cases h4 : s.size < 4
  · rw [if_pos h4]
    have c1 := fun b w h => Num_any b s 0 4 w hs h
    rw [rdNum_short s h4] at c1
    dsimp only at c1
    have C1 : Hid _ := c1
    have C2 : Hid _ := fun b w h => Left_any b ⟨#[]⟩ 2 w (Nat.zero_le _) h
    have c3 := fun b w h => Raw_any b ⟨#[]⟩ 2 0 w (Nat.zero_le _) h
    rw [rdRaw_had (by decide)] at c3
    dsimp only at c3
    have C3 : Hid _ := c3
    have C4 : Hid _ := fun b w h => Err_any b ⟨#[]⟩ 2 w h
    clear c1 c3 hs h4
    go_enter Tryz.func85, Tryz.ntmps85
    go_wp2_with (first | (go_at_call 69; refine (Read_any _ _).mono ?_; rintro e w1 ⟨rfl, h1, b1⟩) | (go_at_call 70; refine (C1.out _ _ h1).mono ?_; rintro e w2 ⟨rfl, h2, o2⟩) | (go_at_call 91; refine (C2.out _ _ h2).mono ?_; rintro e w3 ⟨rfl, rfl⟩) | (go_at_call 72; refine (C3.out _ _ h2).mono ?_; rintro e w4 ⟨rfl, h4, o4⟩) | (go_at_call 84; refine (C4.out _ _ h4).mono ?_; rintro e w5 ⟨rfl, rfl⟩))
    go_ret2
    exact ⟨rfl, b1.trans ((o2.trans o4).below (Nat.le_refl _) b1.size)⟩
  · rw [if_neg h4]
    have c1 := fun b w h => Num_any b s 0 4 w hs h
    rw [rdNum_four s h4] at c1
    dsimp only at c1
    have hl : (s.extract 4 s.size).size ≤ 140737488351232 := by rw [ByteArray.size_extract]; omega
    generalize s.extract 4 s.size = l at *
    generalize beN (s.extract 0 4).data.toList = k at *
    have C1 : Hid _ := c1
    have C2 : Hid _ := fun b w h => Left_any b l 0 w hl h
    have c3 := fun b w h => Raw_any b l 0 l.size w hl h
    rw [rdRaw_all] at c3
    dsimp only at c3
    have C3 : Hid _ := c3
    have C4 : Hid _ := fun b w h => Err_any b ⟨#[]⟩ 0 w h
    have C5 : Hid _ := fun w => Sum_I l w (by omega)
    clear c1 c3 hs h4 hl
    by_cases he : sumI l = k
    · rw [if_pos he]
      have ht : (sumI l != (k : Int)) = false := by rw [he]; simp
      clear he
      go_enter Tryz.func85, Tryz.ntmps85
      go_wp2_with (first | (go_at_call 69; refine (Read_any _ _).mono ?_; rintro e w1 ⟨rfl, h1, b1⟩) | (go_at_call 70; refine (C1.out _ _ h1).mono ?_; rintro e w2 ⟨rfl, h2, o2⟩) | (go_at_call 91; refine (C2.out _ _ h2).mono ?_; rintro e w3 ⟨rfl, rfl⟩) | (go_at_call 72; refine (C3.out _ _ h2).mono ?_; rintro e w4 ⟨rfl, h4, o4⟩) | (go_at_call 84; refine (C4.out _ _ h4).mono ?_; rintro e w5 ⟨rfl, rfl⟩) | (go_at_call 79; refine (C5.out _).mono ?_; rintro e w6 ⟨rfl, b6⟩))
      go_ret2
      have b4 := b1.trans ((o2.trans o4).below (Nat.le_refl _) b1.size)
      exact ⟨rfl, b4.trans (b6.mono b4.size)⟩
    · rw [if_neg he]
      have ht : (sumI l != (k : Int)) = true := by simpa using he
      clear he
      go_enter Tryz.func85, Tryz.ntmps85
      go_wp2_with (first | (go_at_call 69; refine (Read_any _ _).mono ?_; rintro e w1 ⟨rfl, h1, b1⟩) | (go_at_call 70; refine (C1.out _ _ h1).mono ?_; rintro e w2 ⟨rfl, h2, o2⟩) | (go_at_call 91; refine (C2.out _ _ h2).mono ?_; rintro e w3 ⟨rfl, rfl⟩) | (go_at_call 72; refine (C3.out _ _ h2).mono ?_; rintro e w4 ⟨rfl, h4, o4⟩) | (go_at_call 84; refine (C4.out _ _ h4).mono ?_; rintro e w5 ⟨rfl, rfl⟩) | (go_at_call 79; refine (C5.out _).mono ?_; rintro e w6 ⟨rfl, b6⟩))
      go_ret2
      have b4 := b1.trans ((o2.trans o4).below (Nat.le_refl _) b1.size)
      exact ⟨rfl, b4.trans (b6.mono b4.size)⟩

theorem open_seal (s : ByteArray) : openV (beS (sumI s).toNat 4 ++ s) = (s, 0) := by
  have hz := beS_size (sumI s).toNat 4
  have h0 := sumI_nonneg s
  have h1 := sumI_lt s
  have e1 := extract_left (beS (sumI s).toNat 4) s
  have e2 := extract_right (beS (sumI s).toNat 4) s
  have e3 : (beS (sumI s).toNat 4).data.toList = be (sumI s).toNat 4 := by simp [beS]
  have e4 := beN_be 4 (sumI s).toNat (by omega)
  rw [hz] at e1 e2
  unfold openV
  rw [if_neg (by rw [ByteArray.size_append, hz]; omega), e1, e2, e3, e4, if_pos (by omega)]
end Go.Proofs.YtgcfbjecmmnlhaaGreat.Sm
