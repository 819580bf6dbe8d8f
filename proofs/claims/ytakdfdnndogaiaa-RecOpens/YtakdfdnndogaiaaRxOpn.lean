/- The program's framed and Open. -/
import Derived.Test.YtakdfdnndogaiaaRxOf
namespace Go.Proofs.Ytakdfdnndogaiaa
open Go.RowKit
set_option linter.unusedVariables false
set_option linter.unusedSimpArgs false
set_option maxRecDepth 100000

/-- What stands in the frame with which a text begins. -/
def frR (s : ByteArray) : ByteArray × ByteArray × Int := Pk.rdRaw (sN (s, 0) 2).1 (sN (s, 0) 2).2 (4 + nN (s, 0) 2)
def frM (s : ByteArray) : ByteArray × Int :=
  if s.size < 6 then (⟨#[]⟩, 2) else if nN (s, 0) 2 < 1 ∨ 4096 < nN (s, 0) 2 then (⟨#[]⟩, 4) else if (frR s).2.2 ≠ 0 then (⟨#[]⟩, (frR s).2.2) else Sm.openV (frR s).1
theorem RdS.raw {w : World} {b : Nat} {q : Lf} (h : RdS w b q) (n : Int) : Calls Try.prog 44 #[.pointer (some ⟨b, 0, none⟩), .int .i64 n] w fun r w' => r = .returned (.string (Pk.rdRaw q.1 q.2 n).1) ∧ Pk.isRd w' b (Pk.rdRaw q.1 q.2 n).2.1 (Pk.rdRaw q.1 q.2 n).2.2 ∧ Pk.Off b w w' := Pk.Raw_any b q.1 q.2 n w h.sz h.rd
set_option maxHeartbeats 1000000 in
theorem framed_any {w : World} (s : ByteArray) (hs : s.size ≤ 140737488351232) : Calls Try.prog 30 #[.string s] w fun e w' => e = .returned (.tuple #[.string (frM s).1, .int .i64 (frM s).2]) ∧ Below w.heap.size w w' := by
  unfold frM
  by_cases h6 : s.size < 6
  · rw [if_pos h6]
    have h6' : (s.size : Int) < 6 := by omega
    go_enter Try.func30, Try.ntmps30
    go_wp2
    go_ret2
    exact ⟨rfl, Below.refl _ _⟩
  rw [if_neg h6]
  have h6' : ¬ (s.size : Int) < 6 := by omega
  have hn0 := nN_nonneg (s, 0) 2
  have hn1 := nN_lt (s, 0) 2
  have CN : Hid (∀ wx b, RdS wx b (s, 0) → Calls Try.prog 43 #[.pointer (some ⟨b, 0, none⟩), .int .i64 2] wx fun r w' => r = .returned (.int .i64 (nN (s, 0) 2)) ∧ RdS w' b (sN (s, 0) 2) ∧ Pk.Off b wx w') := fun wx b h => h.num 2
  have hzz : (frR s).1.size ≤ 140737488351232 := Nat.le_trans (rdRaw_txt _ _ _) (Nat.le_trans (sN_size (s, 0) 2) hs)
  have CW : Hid (∀ wx b, RdS wx b (sN (s, 0) 2) → Calls Try.prog 44 #[.pointer (some ⟨b, 0, none⟩), .int .i64 (4 + nN (s, 0) 2)] wx fun r w' => r = .returned (.string (frR s).1) ∧ Pk.isRd w' b (frR s).2.1 (frR s).2.2 ∧ Pk.Off b wx w') := fun wx b h => h.raw _
  have CO : Hid (∀ wx, Calls Try.prog 46 #[.string (frR s).1] wx fun e w' => e = .returned (.tuple #[.string (Sm.openV (frR s).1).1, .int .i64 (Sm.openV (frR s).1).2]) ∧ Below wx.heap.size wx w') := fun wx => Sm.Open_any _ wx hzz
  generalize nN (s, 0) 2 = N at *
  generalize sN (s, 0) 2 = q at *
  by_cases hN : N < 1 ∨ 4096 < N
  · rw [if_pos hN]
    clear CW CO
    by_cases h1 : N < 1
    · clear hN
      go_enter Try.func30, Try.ntmps30
      go_wp2_with (first
        | (go_at_call 42; refine (Sm.Read_any _ _).mono ?_; rintro e w1 ⟨rfl, r1, b1⟩)
        | (go_at_call 43; refine (CN.out _ _ ⟨r1, hs⟩).mono ?_; rintro e w2 ⟨rfl, r2, o2⟩))
      go_ret2
      exact ⟨rfl, b1.trans (o2.below (Nat.le_refl _) b1.size)⟩
    · have h2 : 4096 < N := by omega
      clear hN
      go_enter Try.func30, Try.ntmps30
      go_wp2_with (first
        | (go_at_call 42; refine (Sm.Read_any _ _).mono ?_; rintro e w1 ⟨rfl, r1, b1⟩)
        | (go_at_call 43; refine (CN.out _ _ ⟨r1, hs⟩).mono ?_; rintro e w2 ⟨rfl, r2, o2⟩))
      go_ret2
      exact ⟨rfl, b1.trans (o2.below (Nat.le_refl _) b1.size)⟩
  rw [if_neg hN]
  have h1 : ¬ N < 1 := by omega
  have h2 : ¬ 4096 < N := by omega
  clear hN
  generalize (frR s).1 = Z at *
  generalize (frR s).2.1 = L at *
  generalize (frR s).2.2 = E at *
  have CE : Hid (∀ wx b, Pk.isRd wx b L E → Calls Try.prog 45 #[.pointer (some ⟨b, 0, none⟩)] wx fun r w' => r = .returned (.int .i64 E) ∧ w' = wx) := fun wx b h => Pk.Err_any b L E wx h
  by_cases hE : E = 0
  · subst hE
    rw [if_neg (by simp)]
    generalize (Sm.openV Z).1 = OZ at *
    generalize (Sm.openV Z).2 = OE at *
    go_enter Try.func30, Try.ntmps30
    go_wp2_with (first
      | (go_at_call 42; refine (Sm.Read_any _ _).mono ?_; rintro e w1 ⟨rfl, r1, b1⟩)
      | (go_at_call 43; refine (CN.out _ _ ⟨r1, hs⟩).mono ?_; rintro e w2 ⟨rfl, r2, o2⟩)
      | (go_at_call 44; refine (CW.out _ _ r2).mono ?_; rintro e w3 ⟨rfl, r3, o3⟩)
      | (go_at_call 45; refine (CE.out _ _ r3).mono ?_; rintro e w4 ⟨rfl, rfl⟩)
      | (go_at_call 46; refine (CO.out _).mono ?_; rintro e w5 ⟨rfl, b5⟩))
    go_ret2
    have bb := b1.trans ((o2.trans o3).below (Nat.le_refl _) b1.size)
    exact ⟨rfl, thn bb b5⟩
  · rw [if_pos hE]
    have hE' : (E != 0) = true := by simpa using hE
    clear CO
    go_enter Try.func30, Try.ntmps30
    go_wp2_with (first
      | (go_at_call 42; refine (Sm.Read_any _ _).mono ?_; rintro e w1 ⟨rfl, r1, b1⟩)
      | (go_at_call 43; refine (CN.out _ _ ⟨r1, hs⟩).mono ?_; rintro e w2 ⟨rfl, r2, o2⟩)
      | (go_at_call 44; refine (CW.out _ _ r2).mono ?_; rintro e w3 ⟨rfl, r3, o3⟩)
      | (go_at_call 45; refine (CE.out _ _ r3).mono ?_; rintro e w4 ⟨rfl, rfl⟩))
    go_ret2
    exact ⟨rfl, b1.trans ((o2.trans o3).below (Nat.le_refl _) b1.size)⟩
theorem openV_size (s : ByteArray) : (Sm.openV s).1.size ≤ s.size := by
  unfold Sm.openV
  repeat' split
  all_goals simp [ByteArray.size_extract, Pk.size_nil]
theorem frM_size (s : ByteArray) : (frM s).1.size ≤ s.size := by
  unfold frM
  repeat' split
  · exact Nat.zero_le _
  · exact Nat.zero_le _
  · exact Nat.zero_le _
  · exact Nat.le_trans (openV_size _) (Nat.le_trans (rdRaw_txt _ _ _) (sN_size (s, 0) 2))
/-- The record of a frame at a place of a text, how long it is, or why there is none. -/
def openM (s : ByteArray) (a : Int) : Rm × Int × Int :=
  if a < 0 ∨ (s.size : Int) < a then (zM, 0, 6) else if (frM (s.extract a.toNat s.size)).2 ≠ 0 then (zM, 0, (frM (s.extract a.toNat s.size)).2)
  else if (ofM (frM (s.extract a.toNat s.size)).1).2 ≠ 0 then (zM, 0, (ofM (frM (s.extract a.toNat s.size)).1).2) else ((ofM (frM (s.extract a.toNat s.size)).1).1, 6 + (frM (s.extract a.toNat s.size)).1.size, 0)
set_option maxHeartbeats 1000000 in
theorem Open_any {w : World} (s : ByteArray) (a : Int) (hs : s.size ≤ 140737488351232) : Calls Try.prog 17 #[.string s, .int .i64 a] w fun e w' => (∃ v, e = .returned (.tuple #[v, .int .i64 (openM s a).2.1, .int .i64 (openM s a).2.2]) ∧ RecF w' v (openM s a).1 w.heap.size) ∧ Below w.heap.size w w' := by
  unfold openM
  by_cases h0 : a < 0
  · rw [if_pos (Or.inl h0)]
    go_enter Try.func17, Try.ntmps17
    go_wp2_with (first
      | (refine wpList_new_rc _ rfl rfl ?_; intro w1 b4 N1)
      | (refine wpList_put_rc (s' := zS) (I' := nilV) (T' := nilV) _ rfl (.tmp 4) (.tmp 18) rfl rfl rfl N1.rc rfl rfl ?_; intro w6 P6))
    refine bodyPost_ret (results_rc3 rfl _ _ rfl P6.rc) rfl ?_
    exact ⟨⟨_, rfl, RecF.zero _ _⟩, N1.below.trans (P6.below (by have := N1.eq; omega) N1.below.size)⟩
  by_cases h1 : (s.size : Int) < a
  · rw [if_pos (Or.inr h1)]
    go_enter Try.func17, Try.ntmps17
    go_wp2_with (first
      | (refine wpList_new_rc _ rfl rfl ?_; intro w1 b4 N1)
      | (refine wpList_put_rc (s' := zS) (I' := nilV) (T' := nilV) _ rfl (.tmp 4) (.tmp 18) rfl rfl rfl N1.rc rfl rfl ?_; intro w6 P6))
    refine bodyPost_ret (results_rc3 rfl _ _ rfl P6.rc) rfl ?_
    exact ⟨⟨_, rfl, RecF.zero _ _⟩, N1.below.trans (P6.below (by have := N1.eq; omega) N1.below.size)⟩
  rw [if_neg (by omega)]
  obtain ⟨m, rfl⟩ : ∃ m : Nat, a = m := ⟨a.toNat, by omega⟩
  rw [Int.toNat_natCast]
  have hm : m ≤ s.size := by omega
  have hxz : (s.extract m s.size).size ≤ 140737488351232 := by rw [ByteArray.size_extract]; omega
  have CF : Hid (∀ wx, Calls Try.prog 30 #[.string (s.extract m s.size)] wx fun e w' => e = .returned (.tuple #[.string (frM (s.extract m s.size)).1, .int .i64 (frM (s.extract m s.size)).2]) ∧ Below wx.heap.size wx w') := fun wx => framed_any _ hxz
  have hfz := Nat.le_trans (frM_size (s.extract m s.size)) hxz
  have CO : Hid (∀ wx, Calls Try.prog 18 #[.string (frM (s.extract m s.size)).1] wx fun e w' => (∃ v, e = .returned (.tuple #[v, .int .i64 (ofM (frM (s.extract m s.size)).1).2]) ∧ RecF w' v (ofM (frM (s.extract m s.size)).1).1 wx.heap.size) ∧ Below wx.heap.size wx w') := fun wx => Of_any _ hfz
  obtain ⟨x, hx⟩ : ∃ x, s.extract m s.size = x := ⟨_, rfl⟩
  rw [hx] at CF CO hfz ⊢
  clear hxz
  generalize (frM x).2 = E at *
  generalize (frM x).1 = Z at *
  by_cases hE : E = 0
  · subst hE
    rw [if_neg (by simp)]
    generalize (ofM Z).2 = F at *
    generalize (ofM Z).1 = M at *
    obtain ⟨s9, l9, g9⟩ := M
    by_cases hF : F = 0
    · subst hF
      rw [if_neg (by simp)]
      go_enter Try.func17, Try.ntmps17
      go_wp2_with (first
        | (have := N1; refine wpList_new_rc _ rfl rfl ?_; intro w3 b9 N4)
        | (refine wpList_new_rc _ rfl rfl ?_; intro w1 b4 N1)
        | (go_at_call 30; refine (CF.out _).mono ?_; rintro e w8 ⟨rfl, bf⟩)
        | (go_at_call 18; refine (CO.out _).mono ?_; rintro e w2 ⟨⟨v, rfl, hv⟩, b2'⟩; obtain ⟨I, T, rfl, hI, hT⟩ := hv.ex; dsimp only at hI hT)
        | (refine wpList_at (Op.store 25 (.tmp 9) (.tmp 33)) rfl ?_; refine wpList_put_rc (s' := s9) (I' := I) (T' := T) _ rfl (.tmp 9) (.tmp 33) rfl rfl rfl N4.rc hI.slI.one hT.slT.one ?_; intro w4 P4; have H := OfS.mk' N1 (thn bf b2') (hI.mono bf.size) (hT.mono bf.size) N4 P4; clear N1 N4 P4 hv hI hT this)
        | (refine wpList_load_rc _ rfl (.tmp 9) rfl rfl H.c ?_)
        | (refine wpList_at (Op.store 25 (.tmp 4) (.tmp 39)) rfl ?_; refine wpList_put_rc (s' := s9) (I' := I) (T' := T) _ rfl (.tmp 4) (.tmp 39) rfl rfl rfl H.r H.im.slI.one H.tb.slT.one ?_; intro w6 P6))
      refine bodyPost_ret (results_rc3 rfl _ _ rfl P6.rc) rfl ?_
      exact ⟨⟨_, rfl, ⟨I, T, rfl, (H.im.off P6.off H.hb2).mono H.lB, (H.tb.off P6.off H.hb2).mono H.lB⟩⟩, H.bel.trans (P6.below H.l2 H.bel.size)⟩
    · rw [if_pos hF]
      have hF' : (F != 0) = true := by simpa using hF
      go_enter Try.func17, Try.ntmps17
      go_wp2_with (first
        | (have := N1; refine wpList_new_rc _ rfl rfl ?_; intro w3 b9 N4)
        | (refine wpList_new_rc _ rfl rfl ?_; intro w1 b4 N1)
        | (go_at_call 30; refine (CF.out _).mono ?_; rintro e w8 ⟨rfl, bf⟩)
        | (go_at_call 18; refine (CO.out _).mono ?_; rintro e w2 ⟨⟨v, rfl, hv⟩, b2'⟩; obtain ⟨I, T, rfl, hI, hT⟩ := hv.ex; dsimp only at hI hT)
        | (refine wpList_at (Op.store 25 (.tmp 9) (.tmp 33)) rfl ?_; refine wpList_put_rc (s' := s9) (I' := I) (T' := T) _ rfl (.tmp 9) (.tmp 33) rfl rfl rfl N4.rc hI.slI.one hT.slT.one ?_; intro w4 P4; have H := OfS.mk' N1 (thn bf b2') (hI.mono bf.size) (hT.mono bf.size) N4 P4; clear N1 N4 P4 hv hI hT this)
        | (refine wpList_at (Op.store 25 (.tmp 4) (.tmp 37)) rfl ?_; refine wpList_put_rc (s' := zS) (I' := nilV) (T' := nilV) _ rfl (.tmp 4) (.tmp 37) rfl rfl rfl H.r rfl rfl ?_; intro w6 P6))
      refine bodyPost_ret (results_rc3 rfl _ _ rfl P6.rc) rfl ?_
      exact ⟨⟨_, rfl, RecF.zero _ _⟩, H.bel.trans (P6.below H.l2 H.bel.size)⟩
  · rw [if_pos hE]
    have hE' : (E != 0) = true := by simpa using hE
    clear CO
    go_enter Try.func17, Try.ntmps17
    go_wp2_with (first
      | (refine wpList_new_rc _ rfl rfl ?_; intro w1 b4 N1)
      | (go_at_call 30; refine (CF.out _).mono ?_; rintro e w8 ⟨rfl, bf⟩)
      | (refine wpList_put_rc (s' := zS) (I' := nilV) (T' := nilV) _ rfl (.tmp 4) (.tmp 28) rfl rfl rfl (N1.rc.below bf) rfl rfl ?_; intro w6 P6))
    refine bodyPost_ret (results_rc3 rfl _ _ rfl P6.rc) rfl ?_
    have bb := thn N1.below bf
    exact ⟨⟨_, rfl, RecF.zero _ _⟩, bb.trans (P6.below (by have := N1.eq; omega) bb.size)⟩
end Go.Proofs.Ytakdfdnndogaiaa
