/- The walks of SumIs and SumMores. -/
import Derived.Test.YtlgocioagndlbaaRun
namespace Go.Proofs.Ytlgocioagndlbaa
open Go.RowKit
set_option linter.unusedVariables false
set_option linter.unusedSimpArgs false
set_option maxRecDepth 100000

def sumI (s : ByteArray) : Int := vI (sumB s.data.toList)
def moreI (n : Int) (s : ByteArray) : Int := vI (moreB (BitVec.ofInt 32 n) s.data.toList)
theorem Sum_I (s : ByteArray) (w : World) (hs : s.size ≤ 281474976710656) :
    Calls Try.prog 10 #[.string s] w fun e w' => e = .returned (.int .i64 (sumI s)) ∧ Below w.heap.size w w' := Sum_any s w hs
theorem of_I (s : ByteArray) (w : World) (hs : s.size ≤ 281474976710656) :
    Calls Try.prog 11 #[.string s] w fun e w' => e = .returned (.int .i64 (sumI s)) ∧ w' = w := of_any s w hs
theorem More_I (n : Int) (s : ByteArray) (w : World) (hs : s.size ≤ 281474976710656) :
    Calls Try.prog 13 #[.int .i64 n, .string s] w fun e w' => e = .returned (.int .i64 (moreI n s)) ∧ Below w.heap.size w w' := More_any n s w hs
theorem sumIs_walk (s : ByteArray) (w : World) (hs : s.size ≤ 281474976710656) :
    Calls Try.prog 3 #[.string s] w fun e w' => e = .returned (.bool true) ∧ Below w.heap.size w w' := by
  have hc := cutV_size s
  have C0 : Hid _ := fun w => cut_any s w hs
  generalize cutV s = t at *
  have HT : Hid (t.size ≤ 281474976710656) := by show t.size ≤ _; omega
  clear hs hc
  go_enter Try.func3, Try.ntmps3
  go_wp2_with (first | (go_at_call 9; refine (C0.out _).mono ?_; rintro e w0 ⟨rfl, rfl⟩) | (go_at_call 10; refine (Sum_I _ _ HT.out).mono ?_; rintro e w1 ⟨rfl, hb1⟩) | (go_at_call 11; refine (of_I _ _ HT.out).mono ?_; rintro e w2 ⟨rfl, rfl⟩) | (go_at_call 12; refine (awake_any _).mono ?_; rintro e w3 ⟨rfl, hb3⟩))
  go_ret
  exact ⟨rfl, hb1.trans (hb3.mono hb1.size)⟩

theorem append_list (s t : ByteArray) : (s ++ t).data.toList = s.data.toList ++ t.data.toList := by simp
theorem low_mask (n : Int) : bits .and .i64 n 4294967295 = vI (BitVec.ofInt 32 n) := by
  show IntKind.i64.wrap ((BitVec.ofInt 64 n &&& BitVec.ofInt 64 ((4294967295 : Nat) : Int)).toNat : Int) = _
  rw [BitVec.toNat_and, ofInt64 4294967295 (by omega), BitVec.toNat_ofInt, show (4294967295 : Nat) = 2 ^ 32 - 1 from rfl, Nat.and_two_pow_sub_one_eq_mod, IntKind.wrap_i64]
  unfold vI
  rw [BitVec.toNat_ofInt]
  omega
theorem more_sumI (s t : ByteArray) : moreI (sumI s) t = sumI (s ++ t) := by
  unfold moreI sumI
  rw [ofInt_vI, more_sum, append_list]
theorem more_runI (n : Int) (t : ByteArray) : bits .xor .i64 (vI (runB (BitVec.ofInt 32 n ^^^ ones) t.data.toList)) 4294967295 = moreI n t :=
  xor64 (runB (BitVec.ofInt 32 n ^^^ ones) t.data.toList) ones
set_option maxHeartbeats 400000 in
theorem sumMores_walk (s t : ByteArray) (n : Int) (w : World) (hs : s.size ≤ 281474976710656) (ht : t.size ≤ 281474976710656) :
    Calls Try.prog 4 #[.string s, .string t, .int .i64 n] w fun e w' => e = .returned (.bool true) ∧ Below w.heap.size w w' := by
  have HS : Hid _ := hs
  have HT : Hid _ := ht
  have HS' : Hid ((cutV s).size ≤ 281474976710656) := Nat.le_trans (cutV_size s) (by omega)
  have HT' : Hid ((cutV t).size ≤ 281474976710656) := Nat.le_trans (cutV_size t) (by omega)
  have HB : Hid ((cutV s ++ cutV t).size ≤ 281474976710656) := by
    have h1 := cutV_size s
    have h2 := cutV_size t
    show (cutV s ++ cutV t).size ≤ _
    rw [ByteArray.size_append]
    omega
  have hz1 := cutV_size s
  have hz2 := cutV_size t
  have hm := more_sumI (cutV s) (cutV t)
  have hl := low_mask n
  have hx : bits .xor .i64 (vI (BitVec.ofInt 32 n)) 4294967295 = vI (BitVec.ofInt 32 n ^^^ ones) := xor64 (BitVec.ofInt 32 n) ones
  have C5 : Hid _ := fun w => run_any (BitVec.ofInt 32 n ^^^ ones) (cutV t) w HT'.out
  have hy := more_runI n (cutV t)
  clear hs ht
  generalize vI (runB (BitVec.ofInt 32 n ^^^ ones) (cutV t).data.toList) = D at *
  generalize vI (BitVec.ofInt 32 n ^^^ ones) = E at *
  generalize vI (BitVec.ofInt 32 n) = F at *
  go_enter Try.func4, Try.ntmps4
  go_wp2_with (first | (go_at_call 9; refine (cut_any _ _ ?_).mono ?_; (first | exact HS.out | exact HT.out); rintro e w0 ⟨rfl, rfl⟩) | (go_at_call 10; refine (Sum_I _ _ HS'.out).mono ?_; rintro e w1 ⟨rfl, hb1⟩) | (go_at_call 13; refine (More_I _ _ _ HT'.out).mono ?_; rintro e w2 ⟨rfl, hb2⟩) | (go_at_call 11; refine (of_I _ _ HB.out).mono ?_; rintro e w3 ⟨rfl, rfl⟩) | (go_at_call 14; refine (C5.out _).mono ?_; rintro e w5 ⟨rfl, rfl⟩) | (go_at_call 12; refine (awake_any _).mono ?_; rintro e w6 ⟨rfl, hb6⟩))
  rename_i hb2a
  go_ret
  have z1 := hb1.size
  have z2 := hb2a.size
  have z3 := hb2.size
  exact ⟨rfl, ((hb1.trans (hb2a.mono z1)).trans (hb2.mono (by omega))).trans (hb6.mono (by omega))⟩
end Go.Proofs.Ytlgocioagndlbaa
