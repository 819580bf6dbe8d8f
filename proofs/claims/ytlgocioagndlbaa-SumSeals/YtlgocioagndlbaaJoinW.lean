/- The walk of SumJoins. -/
import Derived.Test.YtlgocioagndlbaaSumW
import Derived.Deep.OwnRows
namespace Go.Proofs.Ytlgocioagndlbaa
open Go.RowKit
set_option linter.unusedVariables false
set_option linter.unusedSimpArgs false
set_option maxRecDepth 100000

/-- What Join returns, whatever it is handed. -/
def joinI (a b n : Int) : Int × Int :=
  if a < 0 ∨ 4294967295 < a ∨ b < 0 ∨ 4294967295 < b ∨ n < 0 then (0, 1) else (vI (stn (8 * n.toNat) (BitVec.ofInt 32 a) ^^^ BitVec.ofInt 32 b), 0)
theorem vI_ofInt (a : Int) (h0 : 0 ≤ a) (h1 : a ≤ 4294967295) : vI (BitVec.ofInt 32 a) = a := by
  unfold vI
  rw [BitVec.toNat_ofInt]
  omega
theorem Join_I (a b n : Int) (w : World) (hn : n < 9223372036854775808) :
    Calls Try.prog 15 #[.int .i64 a, .int .i64 b, .int .i64 n] w fun e w' => e = .returned (.tuple #[.int .i64 (joinI a b n).1, .int .i64 (joinI a b n).2]) ∧ w' = w := by
  unfold joinI
  split
  · rename_i h
    exact join_bad a b n w h
  · have := join_fits (BitVec.ofInt 32 a) (BitVec.ofInt 32 b) n w (by omega) hn
    rw [vI_ofInt a (by omega) (by omega), vI_ofInt b (by omega) (by omega)] at this
    exact this
theorem joinI_sums (s t : ByteArray) : joinI (sumI s) (sumI t) (t.size : Int) = (sumI (s ++ t), 0) := by
  have h1 := vI_nonneg (sumB s.data.toList)
  have h2 := vI_lt (sumB s.data.toList)
  have h3 := vI_nonneg (sumB t.data.toList)
  have h4 := vI_lt (sumB t.data.toList)
  unfold joinI sumI
  rw [if_neg (by omega), ofInt_vI, ofInt_vI, append_list, ← join_sum]
  rfl
theorem joinI_bad (a b n : Int) (h : a < 0 ∨ 4294967295 < a ∨ b < 0 ∨ 4294967295 < b ∨ n < 0) : joinI a b n = (0, 1) := by
  unfold joinI
  rw [if_pos h]
def zerosB (n : Nat) : ByteArray := ⟨Array.replicate n 0⟩
theorem zerosB_size (n : Nat) : (zerosB n).size = n := by
  show (Array.replicate n (0 : UInt8)).size = n
  simp
theorem zerosB_list (n : Nat) : (zerosB n).data.toList = List.replicate n 0 := by simp [zerosB]
theorem joinI_zeros (A B : R) (n : Nat) : joinI (vI A) (vI B) (n : Int) = (vI (runB (A ^^^ ones) (zerosB n).data.toList ^^^ ones ^^^ sumB (zerosB n).data.toList ^^^ B), 0) := by
  have h1 := vI_nonneg A
  have h2 := vI_lt A
  have h3 := vI_nonneg B
  have h4 := vI_lt B
  unfold joinI
  rw [if_neg (by omega), ofInt_vI, ofInt_vI, zerosB_list, join_zeros]
  rfl
theorem made_zero (m i : Nat) (hi : i < (zerosB m).size) : (madeCells #[Value.int IntKind.u8 0] m)[0 + i]? = some (Value.int IntKind.u8 ((zerosB m)[i].toNat : Int)) := by
  have hi' : i < m := by rwa [zerosB_size] at hi
  have e1 : (zerosB m)[i] = 0 := by
    show (Array.replicate m (0 : UInt8))[i]'(by simpa using hi') = 0
    simp
  rw [e1, ← Array.getElem?_toList, toList_madeCells_one, Nat.zero_add, List.getElem?_replicate, if_pos hi']
  rfl
theorem cut_ex : ∃ c : ByteArray → ByteArray, (∀ s, (c s).size ≤ 3000) ∧ (∀ (s : ByteArray) (w : World), s.size ≤ 281474976710656 → Calls Try.prog 9 #[.string s] w fun e w' => e = .returned (.string (c s)) ∧ w' = w) :=
  ⟨cutV, cutV_size, cut_any⟩
set_option maxHeartbeats 1000000 in
theorem sumJoins_walk (s t : ByteArray) (a b n : Int) (w : World) (hs : s.size ≤ 281474976710656) (ht : t.size ≤ 281474976710656) :
    Calls Try.prog 5 #[.string s, .string t, .int .i64 a, .int .i64 b, .int .i64 n] w fun e w' => e = .returned (.bool true) ∧ Below w.heap.size w w' := by
  obtain ⟨c, hcs, hcut⟩ := cut_ex
  have HC : Hid _ := hcut
  clear hcut
  have HS : Hid _ := hs
  have HT : Hid _ := ht
  have HS' : Hid ((c s).size ≤ 281474976710656) := Nat.le_trans (hcs s) (by omega)
  have HT' : Hid ((c t).size ≤ 281474976710656) := Nat.le_trans (hcs t) (by omega)
  have HB : Hid ((c s ++ c t).size ≤ 281474976710656) := by
    have h1 := hcs s
    have h2 := hcs t
    show (c s ++ c t).size ≤ _
    rw [ByteArray.size_append]
    omega
  have HN1 : Hid (((c t).size : Int) < 9223372036854775808) := by
    have h2 := hcs t
    show ((c t).size : Int) < 9223372036854775808
    omega
  have hz1 := hcs s
  have hz2 := hcs t
  have j1 : (joinI (sumI (c s)) (sumI (c t)) ((c t).size : Int)).1 = sumI (c s ++ c t) := by rw [joinI_sums]
  have j2 : (joinI (sumI (c s)) (sumI (c t)) ((c t).size : Int)).2 = 0 := by rw [joinI_sums]
  clear hs ht hcs
  by_cases h4 : 400 < n
  · have hd : decide (400 < n) = true := by simpa using h4
    clear h4
    go_enter Try.func5, Try.ntmps5
    go_wp2_with (first | (go_at_call 9; refine (HC.out _ _ ?_).mono ?_; (first | exact HS.out | exact HT.out); rintro e w0 ⟨rfl, rfl⟩) | (go_at_call 10; refine (Sum_I _ _ ?_).mono ?_; exact HS'.out; rintro e w1 ⟨rfl, hb1⟩) | (go_at_call 10; refine (Sum_I _ _ ?_).mono ?_; exact HT'.out; rintro e w2 ⟨rfl, hb2⟩) | (go_at_call 15; refine (Join_I _ _ _ _ HN1.out).mono ?_; rintro e w3 ⟨rfl, rfl⟩) | (go_at_call 11; refine (of_I _ _ HB.out).mono ?_; rintro e w4 ⟨rfl, rfl⟩) | (go_at_call 12; refine (awake_any _).mono ?_; rintro e w6 ⟨rfl, hb6⟩))
    go_ret
    have z1 := hb1.size
    have z2 := hb2.size
    exact ⟨rfl, (hb1.trans (hb2.mono z1)).trans (hb6.mono (by omega))⟩
  · have hd : decide (400 < n) = false := by simpa using h4
    have HN : Hid (∀ x : Int, x = ((c t).size : Int) ∨ x = n → x < 9223372036854775808) := by
      rintro x (rfl | rfl)
      · exact HN1.out
      · omega
    by_cases hbad : a < 0 ∨ 4294967295 < a ∨ b < 0 ∨ 4294967295 < b ∨ n < 0
    · have jb1 : (joinI a b n).1 = 0 := by rw [joinI_bad a b n hbad]
      have jb2 : (joinI a b n).2 = 1 := by rw [joinI_bad a b n hbad]
      by_cases t0 : a < 0
      · have u0 : decide (a < 0) = true := by simpa using t0
        clear hbad h4 t0
        go_enter Try.func5, Try.ntmps5
        go_wp2_with (first | (go_at_call 9; refine (HC.out _ _ ?_).mono ?_; (first | exact HS.out | exact HT.out); rintro e w0 ⟨rfl, rfl⟩) | (go_at_call 10; refine (Sum_I _ _ ?_).mono ?_; exact HS'.out; rintro e w1 ⟨rfl, hb1⟩) | (go_at_call 10; refine (Sum_I _ _ ?_).mono ?_; exact HT'.out; rintro e w2 ⟨rfl, hb2⟩) | (go_at_call 15; refine (Join_I _ _ _ _ (HN.out _ ?_)).mono ?_; (first | exact Or.inr rfl | exact Or.inl rfl); rintro e w3 ⟨rfl, rfl⟩) | (go_at_call 11; refine (of_I _ _ HB.out).mono ?_; rintro e w4 ⟨rfl, rfl⟩) | (go_at_call 12; refine (awake_any _).mono ?_; rintro e w6 ⟨rfl, hb6⟩))
        go_ret
        have z1 := hb1.size
        have z2 := hb2.size
        exact ⟨rfl, (hb1.trans (hb2.mono z1)).trans (hb6.mono (by omega))⟩
      · have u0 : decide (a < 0) = false := by simpa using t0
        by_cases t1 : 4294967295 < a
        · have u1 : decide (4294967295 < a) = true := by simpa using t1
          clear hbad h4 t0 t1
          go_enter Try.func5, Try.ntmps5
          go_wp2_with (first | (go_at_call 9; refine (HC.out _ _ ?_).mono ?_; (first | exact HS.out | exact HT.out); rintro e w0 ⟨rfl, rfl⟩) | (go_at_call 10; refine (Sum_I _ _ ?_).mono ?_; exact HS'.out; rintro e w1 ⟨rfl, hb1⟩) | (go_at_call 10; refine (Sum_I _ _ ?_).mono ?_; exact HT'.out; rintro e w2 ⟨rfl, hb2⟩) | (go_at_call 15; refine (Join_I _ _ _ _ (HN.out _ ?_)).mono ?_; (first | exact Or.inr rfl | exact Or.inl rfl); rintro e w3 ⟨rfl, rfl⟩) | (go_at_call 11; refine (of_I _ _ HB.out).mono ?_; rintro e w4 ⟨rfl, rfl⟩) | (go_at_call 12; refine (awake_any _).mono ?_; rintro e w6 ⟨rfl, hb6⟩))
          go_ret
          have z1 := hb1.size
          have z2 := hb2.size
          exact ⟨rfl, (hb1.trans (hb2.mono z1)).trans (hb6.mono (by omega))⟩
        · have u1 : decide (4294967295 < a) = false := by simpa using t1
          by_cases t2 : b < 0
          · have u2 : decide (b < 0) = true := by simpa using t2
            clear hbad h4 t0 t1 t2
            go_enter Try.func5, Try.ntmps5
            go_wp2_with (first | (go_at_call 9; refine (HC.out _ _ ?_).mono ?_; (first | exact HS.out | exact HT.out); rintro e w0 ⟨rfl, rfl⟩) | (go_at_call 10; refine (Sum_I _ _ ?_).mono ?_; exact HS'.out; rintro e w1 ⟨rfl, hb1⟩) | (go_at_call 10; refine (Sum_I _ _ ?_).mono ?_; exact HT'.out; rintro e w2 ⟨rfl, hb2⟩) | (go_at_call 15; refine (Join_I _ _ _ _ (HN.out _ ?_)).mono ?_; (first | exact Or.inr rfl | exact Or.inl rfl); rintro e w3 ⟨rfl, rfl⟩) | (go_at_call 11; refine (of_I _ _ HB.out).mono ?_; rintro e w4 ⟨rfl, rfl⟩) | (go_at_call 12; refine (awake_any _).mono ?_; rintro e w6 ⟨rfl, hb6⟩))
            go_ret
            have z1 := hb1.size
            have z2 := hb2.size
            exact ⟨rfl, (hb1.trans (hb2.mono z1)).trans (hb6.mono (by omega))⟩
          · have u2 : decide (b < 0) = false := by simpa using t2
            by_cases t3 : 4294967295 < b
            · have u3 : decide (4294967295 < b) = true := by simpa using t3
              clear hbad h4 t0 t1 t2 t3
              go_enter Try.func5, Try.ntmps5
              go_wp2_with (first | (go_at_call 9; refine (HC.out _ _ ?_).mono ?_; (first | exact HS.out | exact HT.out); rintro e w0 ⟨rfl, rfl⟩) | (go_at_call 10; refine (Sum_I _ _ ?_).mono ?_; exact HS'.out; rintro e w1 ⟨rfl, hb1⟩) | (go_at_call 10; refine (Sum_I _ _ ?_).mono ?_; exact HT'.out; rintro e w2 ⟨rfl, hb2⟩) | (go_at_call 15; refine (Join_I _ _ _ _ (HN.out _ ?_)).mono ?_; (first | exact Or.inr rfl | exact Or.inl rfl); rintro e w3 ⟨rfl, rfl⟩) | (go_at_call 11; refine (of_I _ _ HB.out).mono ?_; rintro e w4 ⟨rfl, rfl⟩) | (go_at_call 12; refine (awake_any _).mono ?_; rintro e w6 ⟨rfl, hb6⟩))
              go_ret
              have z1 := hb1.size
              have z2 := hb2.size
              exact ⟨rfl, (hb1.trans (hb2.mono z1)).trans (hb6.mono (by omega))⟩
            · have u3 : decide (4294967295 < b) = false := by simpa using t3
              have u4 : decide (n < 0) = true := by simp; omega
              clear hbad h4 t0 t1 t2 t3
              go_enter Try.func5, Try.ntmps5
              go_wp2_with (first | (go_at_call 9; refine (HC.out _ _ ?_).mono ?_; (first | exact HS.out | exact HT.out); rintro e w0 ⟨rfl, rfl⟩) | (go_at_call 10; refine (Sum_I _ _ ?_).mono ?_; exact HS'.out; rintro e w1 ⟨rfl, hb1⟩) | (go_at_call 10; refine (Sum_I _ _ ?_).mono ?_; exact HT'.out; rintro e w2 ⟨rfl, hb2⟩) | (go_at_call 15; refine (Join_I _ _ _ _ (HN.out _ ?_)).mono ?_; (first | exact Or.inr rfl | exact Or.inl rfl); rintro e w3 ⟨rfl, rfl⟩) | (go_at_call 11; refine (of_I _ _ HB.out).mono ?_; rintro e w4 ⟨rfl, rfl⟩) | (go_at_call 12; refine (awake_any _).mono ?_; rintro e w6 ⟨rfl, hb6⟩))
              go_ret
              have z1 := hb1.size
              have z2 := hb2.size
              exact ⟨rfl, (hb1.trans (hb2.mono z1)).trans (hb6.mono (by omega))⟩
    · obtain ⟨A, rfl⟩ : ∃ A, a = vI A := ⟨BitVec.ofInt 32 a, (vI_ofInt a (by omega) (by omega)).symm⟩
      obtain ⟨B, rfl⟩ : ∃ B, b = vI B := ⟨BitVec.ofInt 32 b, (vI_ofInt b (by omega) (by omega)).symm⟩
      obtain ⟨m, hnm⟩ : ∃ m : Nat, n = m := ⟨n.toNat, by omega⟩
      have u0 : decide (vI A < 0) = false := by simp; omega
      have u1 : decide (4294967295 < vI A) = false := by simp; omega
      have u2 : decide (vI B < 0) = false := by simp; omega
      have u3 : decide (4294967295 < vI B) = false := by simp; omega
      have u4 : decide (n < 0) = false := by simp; omega
      have jb1 : (joinI (vI A) (vI B) n).1 = vI (runB (A ^^^ ones) (zerosB m).data.toList ^^^ ones ^^^ sumB (zerosB m).data.toList ^^^ B) := by rw [hnm, joinI_zeros]
      have jb2 : (joinI (vI A) (vI B) n).2 = 0 := by rw [hnm, joinI_zeros]
      have hx : bits .xor .i64 (vI A) 4294967295 = vI (A ^^^ ones) := xor64 A ones
      have HZ : Hid ((zerosB m).size ≤ 281474976710656) := by show (zerosB m).size ≤ _; rw [zerosB_size]; omega
      have HO : Hid (∀ x : ByteArray, x = c s ++ c t ∨ x = zerosB m → x.size ≤ 281474976710656) := by
        rintro x (rfl | rfl)
        · exact HB.out
        · exact HZ.out
      have C5 : Hid _ := fun w => run_any (A ^^^ ones) (zerosB m) w HZ.out
      have hy : bits .xor .i64 (vI (runB (A ^^^ ones) (zerosB m).data.toList)) 4294967295 = vI (runB (A ^^^ ones) (zerosB m).data.toList ^^^ ones) := xor64 _ ones
      have hu : bits .xor .i64 (vI (runB (A ^^^ ones) (zerosB m).data.toList ^^^ ones)) (sumI (zerosB m)) = vI (runB (A ^^^ ones) (zerosB m).data.toList ^^^ ones ^^^ sumB (zerosB m).data.toList) := xor64 _ _
      have hv := xor64 (runB (A ^^^ ones) (zerosB m).data.toList ^^^ ones ^^^ sumB (zerosB m).data.toList) B
      have hmk : ∀ w, (Instr.makeSlice 31 (.int .i64 n) (.int .i64 n)).run Try.prog w = .ok (.slice (some ⟨w.heap.size, 0, none⟩) m m) (w.alloc (.cells (madeCells #[.int .u8 0] m) 5)) :=
        fun w => by rw [hnm]; exact run_make_row' 31 5 (.int .u8 0) 1 Try.underlying31 (by kernel_rfl) rfl .i64 .i64 m (by omega) (by omega) w
      have hcv : ∀ w : World, (convert 31 9 (.slice (some ⟨w.heap.size, 0, none⟩) m m)).run Try.prog (w.alloc (.cells (madeCells #[.int .u8 0] m) 5)) = .ok (.string (zerosB m)) (w.alloc (.cells (madeCells #[.int .u8 0] m) 5)) := by
        intro w
        have := Lib.run_convert_whole (P := Try.prog) (w.alloc (.cells (madeCells #[.int .u8 0] m) 5)) 31 5 9 Try.underlying31 Try.underlying5 Try.underlying9 w.heap.size 0 (zerosB m) (fun i hi => ?_) m
        · rw [zerosB_size] at this
          exact this
        · rw [Joins.cell_of_block (MapKept.heap_alloc w _).1]
          exact made_zero m i hi
      clear hbad h4 hnm
      generalize runB (A ^^^ ones) (zerosB m).data.toList ^^^ ones ^^^ sumB (zerosB m).data.toList ^^^ B = D3 at *
      generalize runB (A ^^^ ones) (zerosB m).data.toList ^^^ ones ^^^ sumB (zerosB m).data.toList = D2 at *
      generalize runB (A ^^^ ones) (zerosB m).data.toList ^^^ ones = D1 at *
      generalize runB (A ^^^ ones) (zerosB m).data.toList = D0 at *
      generalize A ^^^ ones = E at *
      generalize zerosB m = z at *
      generalize vI D3 = d3 at *
      generalize vI D2 = d2 at *
      generalize vI D1 = d1 at *
      generalize vI D0 = d0 at *
      generalize vI E = e at *
      generalize vI A = a at *
      generalize vI B = b at *
      go_enter Try.func5, Try.ntmps5
      go_wp2_with (first | (go_at_call 9; refine (HC.out _ _ ?_).mono ?_; (first | exact HS.out | exact HT.out); rintro e w0 ⟨rfl, rfl⟩) | (go_at_call 10; refine (Sum_I _ _ ?_).mono ?_; exact HS'.out; rintro e w1 ⟨rfl, hb1⟩) | (go_at_call 10; refine (Sum_I _ _ ?_).mono ?_; exact HT'.out; rintro e w2 ⟨rfl, hb2⟩) | (go_at_call 15; refine (Join_I _ _ _ _ (HN.out _ ?_)).mono ?_; (first | exact Or.inr rfl | exact Or.inl rfl); rintro e w3 ⟨rfl, rfl⟩) | (go_at_call 11; refine (of_I _ _ (HO.out _ ?_)).mono ?_; (first | exact Or.inr rfl | exact Or.inl rfl); rintro e w4 ⟨rfl, rfl⟩) | (go_at_call 14; refine (C5.out _).mono ?_; rintro e w5 ⟨rfl, rfl⟩) | (go_at_call 12; refine (awake_any _).mono ?_; rintro e w6 ⟨rfl, hb6⟩))
      go_ret
      have z1 := hb1.size
      have z2 := hb2.size
      have hb12 := hb1.trans (hb2.mono z1)
      have hb3 := hb12.alloc hb12.size (.cells (madeCells #[.int .u8 0] m) 5)
      exact ⟨rfl, hb3.trans (hb6.mono hb3.size)⟩
end Go.Proofs.Ytlgocioagndlbaa
