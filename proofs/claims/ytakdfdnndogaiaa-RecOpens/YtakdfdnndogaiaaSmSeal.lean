/- The layer sum's Seal and Open, over pack's contracts. -/
import Derived.Test.YtakdfdnndogaiaaSmRun
import Derived.Test.YtakdfdnndogaiaaPkRdN
import Derived.Test.YtakdfdnndogaiaaPkMath
import Derived.Deep.RegionHeld3
namespace Go.Proofs.Ytakdfdnndogaiaa.Sm
open Go.RowKit Go.Proofs.Ytakdfdnndogaiaa.Pk
set_option linter.unusedVariables false
set_option linter.unusedSimpArgs false
set_option maxRecDepth 100000

def sumI (s : ByteArray) : Int := vI (sumB s.data.toList)

theorem Sum_I (s : ByteArray) (w : World) (hs : s.size ≤ 281474976710656) :
    Calls Try.prog 28 #[.string s] w fun e w' => e = .returned (.int .i64 (sumI s)) ∧ Below w.heap.size w w' := Sum_any s w hs

theorem below_dr {b : Nat} {a w : World} (h : Below b a w) (n : Nat) : Below b a (w.drewN n) := ⟨h.os, h.tape, h.output, h.size, h.block⟩

theorem nil_append (s : ByteArray) : (⟨#[]⟩ : ByteArray) ++ s = s := by apply ByteArray.ext; simp [ByteArray.data_append]

theorem Put_four (n : Int) (w : World) (h0 : 0 ≤ n) (hn : n < 4294967296) :
    Calls Try.prog 23 #[.string ⟨#[]⟩, .int .i64 n, .int .i64 4] w fun e w' => e = .returned (.tuple #[.string (beS n.toNat 4), .int .i64 0]) ∧ Below w.heap.size w w' := by
  have hz : (beS n.toNat 4).size ≤ 6 := by rw [beS_size]; omega
  have C1 : Hid (∀ w, Calls Try.prog 39 #[.int .i64 n, .int .i64 4] w fun e w' => e = .returned (.string (beS n.toNat 4)) ∧ Below w.heap.size w w') := by
    intro w
    have h := num_4 n.toNat w (by omega)
    rw [Int.toNat_of_nonneg h0] at h
    exact h
  go_enter Try.func23, Try.ntmps23
  go_wp2_with (first | (go_at_call 38; refine (isWidth_any _ _).mono ?_; rintro e w' ⟨rfl, rfl⟩) | (go_at_call 39; refine (C1.out _).mono ?_; rintro e w1 ⟨rfl, hb⟩))
  go_ret2
  rw [nil_append]
  exact ⟨rfl, hb⟩

theorem Read_any (s : ByteArray) (w : World) :
    Calls Try.prog 42 #[.string s] w fun e w' => e = .returned (.pointer (some ⟨w.heap.size, 0, none⟩)) ∧ isRd w' w.heap.size s 0 ∧ Below w.heap.size w w' := by
  go_enter Try.func42, Try.ntmps42
  go_wp2
  go_ret
  exact ⟨rfl, (MapKept.heap_alloc w _).1, (Below.refl _ _).alloc (Nat.le_refl _) _⟩

theorem sumI_nonneg (s : ByteArray) : 0 ≤ sumI s := vI_nonneg _

theorem sumI_lt (s : ByteArray) : sumI s < 4294967296 := vI_lt _

/-- A text with its sum ahead. -/
def sealV (s : ByteArray) : ByteArray := beS (sumI s).toNat 4 ++ s

theorem Seal_any (s : ByteArray) (w : World) (hs : s.size ≤ 140737488351232) :
    Calls Try.prog 13 #[.string s] w fun e w' => e = .returned (.string (sealV s)) ∧ Below w.heap.size w w' := by
  have hz : (beS (sumI s).toNat 4).size ≤ 6 := by rw [beS_size]; omega
  have C1 : Hid _ := fun w => Sum_I s w (by omega)
  have C2 : Hid _ := fun w => Put_four (sumI s) w (sumI_nonneg s) (sumI_lt s)
  have HV : Hid (sealV s = beS (sumI s).toNat 4 ++ s) := by rfl
  generalize sumI s = n at *
  generalize sealV s = v at *
  generalize beS n.toNat 4 = b at *
  go_enter Try.func13, Try.ntmps13
  go_wp2_with (first | (go_at_call 28; refine (C1.out _).mono ?_; rintro e w1 ⟨rfl, hb1⟩) | (go_at_call 23; refine (C2.out _).mono ?_; rintro e w2 ⟨rfl, hb2⟩))
  go_ret
  rw [HV.out]
  exact ⟨rfl, hb1.trans (hb2.mono hb1.size)⟩

/-- What Open returns. -/
def openV (s : ByteArray) : ByteArray × Int :=
  if s.size < 4 then (⟨#[]⟩, 2) else if sumI (s.extract 4 s.size) = beN (s.extract 0 4).data.toList then (s.extract 4 s.size, 0) else (⟨#[]⟩, 5)

theorem rdNum_four (s : ByteArray) (h : ¬ s.size < 4) : rdNum s 0 4 = (beN (s.extract 0 4).data.toList, s.extract 4 s.size, 0) := by
  have e1 : rdNumSt s 0 4 = (s, 0) := by unfold rdNumSt; rw [if_neg (by omega)]
  have e2 : rdRaw s 0 4 = (s.extract 0 4, s.extract 4 s.size, 0) := rdRaw_fits (by omega) (by omega)
  unfold rdNum
  rw [e1]
  dsimp only
  rw [e2]

theorem rdNum_short (s : ByteArray) (h : s.size < 4) : rdNum s 0 4 = (0, ⟨#[]⟩, 2) := by
  have e1 : rdNumSt s 0 4 = (s, 0) := by unfold rdNumSt; rw [if_neg (by omega)]
  have e2 : rdRaw s 0 4 = (⟨#[]⟩, ⟨#[]⟩, 2) := rdRaw_short (by omega) (by omega)
  unfold rdNum
  rw [e1]
  dsimp only
  rw [e2]
  rfl

theorem rdRaw_all (l : ByteArray) : rdRaw l 0 (l.size : Int) = (l, ⟨#[]⟩, 0) := by
  rw [rdRaw_fits (by omega) (by omega), Int.toNat_natCast]
  have e1 : l.extract 0 l.size = l := by apply ByteArray.ext; simp [ByteArray.data_extract]
  have e2 : l.extract l.size l.size = ⟨#[]⟩ := by apply ByteArray.ext; simp [ByteArray.data_extract]
  rw [e1, e2]

set_option maxHeartbeats 1000000 in
theorem Open_any (s : ByteArray) (w : World) (hs : s.size ≤ 140737488351232) :
    Calls Try.prog 46 #[.string s] w fun e w' => e = .returned (.tuple #[.string (openV s).1, .int .i64 (openV s).2]) ∧ Below w.heap.size w w' := by
  unfold openV
  by_cases h4 : s.size < 4
  · rw [if_pos h4]
    have c1 := fun b w h => Num_any b s 0 4 w hs h
    rw [rdNum_short s h4] at c1
    dsimp only at c1
    have C1 : Hid _ := c1
    have C2 : Hid _ := fun b w h => Left_any b ⟨#[]⟩ 2 w (Nat.zero_le _) h
    have c3 := fun b w h => Raw_any b ⟨#[]⟩ 2 0 w (Nat.zero_le _) h
    rw [rdRaw_had (by decide)] at c3
    dsimp only at c3
    have C3 : Hid _ := c3
    have C4 : Hid _ := fun b w h => Err_any b ⟨#[]⟩ 2 w h
    clear c1 c3 hs h4
    go_enter Try.func46, Try.ntmps46
    go_wp2_with (first | (go_at_call 42; refine (Read_any _ _).mono ?_; rintro e w1 ⟨rfl, h1, b1⟩) | (go_at_call 43; refine (C1.out _ _ h1).mono ?_; rintro e w2 ⟨rfl, h2, o2⟩) | (go_at_call 64; refine (C2.out _ _ h2).mono ?_; rintro e w3 ⟨rfl, rfl⟩) | (go_at_call 44; refine (C3.out _ _ h2).mono ?_; rintro e w4 ⟨rfl, h4, o4⟩) | (go_at_call 45; refine (C4.out _ _ h4).mono ?_; rintro e w5 ⟨rfl, rfl⟩))
    go_ret2
    exact ⟨rfl, b1.trans ((o2.trans o4).below (Nat.le_refl _) b1.size)⟩
  · rw [if_neg h4]
    have c1 := fun b w h => Num_any b s 0 4 w hs h
    rw [rdNum_four s h4] at c1
    dsimp only at c1
    have hl : (s.extract 4 s.size).size ≤ 140737488351232 := by rw [ByteArray.size_extract]; omega
    generalize s.extract 4 s.size = l at *
    generalize beN (s.extract 0 4).data.toList = k at *
    have C1 : Hid _ := c1
    have C2 : Hid _ := fun b w h => Left_any b l 0 w hl h
    have c3 := fun b w h => Raw_any b l 0 l.size w hl h
    rw [rdRaw_all] at c3
    dsimp only at c3
    have C3 : Hid _ := c3
    have C4 : Hid _ := fun b w h => Err_any b ⟨#[]⟩ 0 w h
    have C5 : Hid _ := fun w => Sum_I l w (by omega)
    clear c1 c3 hs h4 hl
    by_cases he : sumI l = k
    · rw [if_pos he]
      have ht : (sumI l != (k : Int)) = false := by rw [he]; simp
      clear he
      go_enter Try.func46, Try.ntmps46
      go_wp2_with (first | (go_at_call 42; refine (Read_any _ _).mono ?_; rintro e w1 ⟨rfl, h1, b1⟩) | (go_at_call 43; refine (C1.out _ _ h1).mono ?_; rintro e w2 ⟨rfl, h2, o2⟩) | (go_at_call 64; refine (C2.out _ _ h2).mono ?_; rintro e w3 ⟨rfl, rfl⟩) | (go_at_call 44; refine (C3.out _ _ h2).mono ?_; rintro e w4 ⟨rfl, h4, o4⟩) | (go_at_call 45; refine (C4.out _ _ h4).mono ?_; rintro e w5 ⟨rfl, rfl⟩) | (go_at_call 28; refine (C5.out _).mono ?_; rintro e w6 ⟨rfl, b6⟩))
      go_ret2
      have b4 := b1.trans ((o2.trans o4).below (Nat.le_refl _) b1.size)
      exact ⟨rfl, b4.trans (b6.mono b4.size)⟩
    · rw [if_neg he]
      have ht : (sumI l != (k : Int)) = true := by simpa using he
      clear he
      go_enter Try.func46, Try.ntmps46
      go_wp2_with (first | (go_at_call 42; refine (Read_any _ _).mono ?_; rintro e w1 ⟨rfl, h1, b1⟩) | (go_at_call 43; refine (C1.out _ _ h1).mono ?_; rintro e w2 ⟨rfl, h2, o2⟩) | (go_at_call 64; refine (C2.out _ _ h2).mono ?_; rintro e w3 ⟨rfl, rfl⟩) | (go_at_call 44; refine (C3.out _ _ h2).mono ?_; rintro e w4 ⟨rfl, h4, o4⟩) | (go_at_call 45; refine (C4.out _ _ h4).mono ?_; rintro e w5 ⟨rfl, rfl⟩) | (go_at_call 28; refine (C5.out _).mono ?_; rintro e w6 ⟨rfl, b6⟩))
      go_ret2
      have b4 := b1.trans ((o2.trans o4).below (Nat.le_refl _) b1.size)
      exact ⟨rfl, b4.trans (b6.mono b4.size)⟩

theorem open_seal (s : ByteArray) : openV (beS (sumI s).toNat 4 ++ s) = (s, 0) := by
  have hz := beS_size (sumI s).toNat 4
  have h0 := sumI_nonneg s
  have h1 := sumI_lt s
  have e1 := extract_left (beS (sumI s).toNat 4) s
  have e2 := extract_right (beS (sumI s).toNat 4) s
  have e3 : (beS (sumI s).toNat 4).data.toList = be (sumI s).toNat 4 := by simp [beS]
  have e4 := beN_be 4 (sumI s).toNat (by omega)
  rw [hz] at e1 e2
  unfold openV
  rw [if_neg (by rw [ByteArray.size_append, hz]; omega), e1, e2, e3, e4, if_pos (by omega)]
end Go.Proofs.Ytakdfdnndogaiaa.Sm
