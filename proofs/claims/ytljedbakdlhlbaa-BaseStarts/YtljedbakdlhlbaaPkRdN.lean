/- The program's reader: the calls Num, Text and End of any reader that is not nil. -/
import Derived.Test.YtljedbakdlhlbaaPkRd
import Derived.Laws.BitsAllLaws
namespace Go.Proofs.Ytljedbakdlhlbaa.Pk
open Go.RowKit
set_option linter.unusedVariables false
set_option linter.unusedSimpArgs false
set_option maxRecDepth 100000

theorem beN_snoc (l : List UInt8) (c : UInt8) : beN (l ++ [c]) = 256 * beN l + c.toNat := by simp [beN]
theorem beN_lt (l : List UInt8) : beN l < 256 ^ l.length := by
  have key : ∀ (l : List UInt8) (a n : Nat), a < 256 ^ n → l.foldl (fun a b => 256 * a + b.toNat) a < 256 ^ (n + l.length) := by
    intro l
    induction l with
    | nil => intro a n h; simpa using h
    | cons c l ih =>
      intro a n h
      have hc := c.toNat_lt
      have := ih (256 * a + c.toNat) (n + 1) (by rw [Nat.pow_succ]; omega)
      rw [List.foldl_cons, List.length_cons]
      rw [show n + (l.length + 1) = n + 1 + l.length by omega]
      exact this
  have := key l 0 0 (by simp)
  simpa [beN] using this
theorem beN_le6 (l : List UInt8) (h : l.length ≤ 6) : beN l < 281474976710656 := by
  have h1 := beN_lt l
  have h2 : 256 ^ l.length ≤ 256 ^ 6 := Nat.pow_le_pow_right (by omega) h
  have h3 : 256 ^ 6 = 281474976710656 := by decide
  omega
theorem take_snoc (s : ByteArray) (k : Nat) (h : k < s.size) : s.data.toList.take (k + 1) = s.data.toList.take k ++ [s[k]] := by
  rw [List.take_succ_eq_append_getElem (by simpa using h)]; rfl
theorem bytesRow_cell (w : World) (s : ByteArray) (c m : Nat) (k : Nat) (h : k < s.size) :
    (w.alloc (.cells (bytesRow s c) 5 (m, m + 1))).cell? ⟨w.heap.size, k, none⟩ = some (.int .u8 (s[k].toNat : Int)) := by
  rw [World.cell?_alloc_mark]
  have h' : k < s.data.size := h
  simp only [bytesRow]
  rw [Array.getElem?_append_left (by simpa using h')]
  rw [Array.getElem?_map, Array.getElem?_eq_getElem h']
  rfl
theorem or_byte (x : Nat) (c : UInt8) (h : x < 281474976710656) : bits BinOp.or IntKind.i64 ((x : Int) * 256) (wrap64 (c.toNat : Int)) = ((256 * x + c.toNat : Nat) : Int) := by
  have hc := c.toNat_lt
  have e1 : wrap64 (c.toNat : Int) = (c.toNat : Int) := by unfold wrap64; omega
  rw [e1]
  show IntKind.i64.wrap ((BitVec.ofInt 64 ((x : Int) * 256) ||| BitVec.ofInt 64 (c.toNat : Int)).toNat : Int) = _
  have e2 : ((x : Int) * 256) = ((256 * x : Nat) : Int) := by omega
  rw [e2, BitVec.toNat_or, ofInt_u64 (256 * x) (by omega), ofInt_u64 c.toNat (by omega), nat_join8 (256 * x) c.toNat (by omega) (by omega), IntKind.wrap_i64]
  omega

theorem rdFail_size (l : ByteArray) (e x : Int) : (rdFail l e x).1.size ≤ l.size := by
  unfold rdFail
  split
  · exact Nat.zero_le _
  · exact Nat.le_refl _
theorem rdFail_ne (l : ByteArray) (e x : Int) (hx : x ≠ 0) : (rdFail l e x).2 ≠ 0 := by
  unfold rdFail
  split
  · exact hx
  · assumption
theorem size_nil : (⟨#[]⟩ : ByteArray).size = 0 := rfl
theorem rdRaw_size (l : ByteArray) (e n : Int) : (rdRaw l e n).2.1.size ≤ l.size := by
  unfold rdRaw
  repeat' split
  all_goals simp [ByteArray.size_extract, size_nil]
theorem rdRaw_size1 (l : ByteArray) (e n : Int) (k : Nat) (h : n ≤ k) : (rdRaw l e n).1.size ≤ k := by
  unfold rdRaw
  repeat' split
  all_goals simp [ByteArray.size_extract, size_nil]
  all_goals omega
theorem rdNumSt_size (l : ByteArray) (e k : Int) : (rdNumSt l e k).1.size ≤ l.size := by
  unfold rdNumSt
  split
  · exact rdFail_size _ _ _
  · exact Nat.le_refl _
theorem rdNumSt_size1 (l : ByteArray) (e k : Int) : (rdRaw (rdNumSt l e k).1 (rdNumSt l e k).2 k).1.size ≤ 6 := by
  unfold rdNumSt
  split
  · rw [rdRaw_had (rdFail_ne _ _ _ (by decide))]; exact Nat.zero_le _
  · exact rdRaw_size1 _ _ _ 6 (by omega)
theorem rdNum_size (l : ByteArray) (e k : Int) : (rdNum l e k).2.1.size ≤ l.size := Nat.le_trans (rdRaw_size _ _ _) (rdNumSt_size _ _ _)
theorem rdNum_lt (l : ByteArray) (e k : Int) : (rdNum l e k).1 < 281474976710656 := beN_le6 _ (rdNumSt_size1 l e k)

set_option maxHeartbeats 1000000 in
theorem Num_any (b : Nat) (l : ByteArray) (e k : Int) (w : World) (hs : l.size ≤ 140737488351232) (h : isRd w b l e) :
    Calls Try.prog 34 #[.pointer (some ⟨b, 0, none⟩), .int .i64 k] w fun r w' => r = .returned (.int .i64 (rdNum l e k).1) ∧ isRd w' b (rdNum l e k).2.1 (rdNum l e k).2.2 ∧ Off b w w' := by
  have hcv := fun w s => run_bytes_of_string (P := Try.prog) w 9 67 5 s Try.underlying9 Try.underlying67 Try.underlying5
  have hl0 := Nat.le_trans (rdNumSt_size l e k) hs
  have hsv := rdNumSt_size1 l e k
  obtain ⟨l0, e0, hst⟩ : ∃ l0 e0, rdNumSt l e k = (l0, e0) := ⟨_, _, rfl⟩
  rw [hst] at hl0 hsv
  dsimp only at hl0 hsv
  obtain ⟨sv, st, hp⟩ : ∃ sv st, rdRaw l0 e0 k = (sv, st) := ⟨_, _, rfl⟩
  have c1 := fun w h => Raw_any b l0 e0 k w hl0 h
  have hr : rdNum l e k = (beN sv.data.toList, st) := by simp only [rdNum, hst, hp]
  rw [hr]
  rw [hp] at c1 hsv
  dsimp only at c1 hsv
  have C1 : Hid _ := c1
  clear c1 hp hr hl0
  by_cases hk : k < 1 ∨ 6 < k
  · have hd : (decide (1 ≤ k) && decide (k ≤ 6)) = false := by simp; omega
    have c0 := fun w h => fail_any b l e 1 w h
    rw [rdNumSt, if_pos hk] at hst
    rw [hst] at c0
    have C0 : Hid _ := c0
    clear c0 hst hk hs
    go_enter Try.func34, Try.ntmps34
    go_wp2_with (first | (go_at_call 43; refine (isWidth_any _ _).mono ?_; rintro e w' ⟨rfl, rfl⟩) | (go_at_call 35; refine (C0.out _ h).mono ?_; rintro e w0 ⟨rfl, h0, o0⟩) | (go_at_call 36; refine (C1.out _ h0).mono ?_; rintro e w1 ⟨rfl, h1, o1⟩))
    have hcell := fun j hj => bytesRow_cell w1 sv (grownCap w1 sv.size 0 5) (bytesRow sv (grownCap w1 sv.size 0 5)).size j hj
    generalize bytesRow sv (grownCap w1 sv.size 0 5) = R at hcell ⊢
    generalize grownCap w1 sv.size 0 5 = gc at hcell ⊢
    go_loop [5, 18] (fun n i => ∃ j : Nat, j ≤ sv.size ∧ i = .int .i64 j ∧ n = .int .i64 (beN (sv.data.toList.take j))) (fun _ i => sv.size - (intOf i).toNat)
    case atStart => exact ⟨0, Nat.zero_le _, rfl, rfl⟩
    case round =>
      obtain ⟨j, hj, rfl, rfl⟩ := hrel
      by_cases hlt : j < sv.size
      · have hc := hcell j hlt
        have hlt2 := beN_le6 (sv.data.toList.take j) (by have := List.length_take_le j sv.data.toList; omega)
        go_wp2
        go_round
        case rel => exact ⟨j + 1, by omega, by go_num, by rw [or_byte _ _ hlt2, take_snoc _ _ hlt, beN_snoc]⟩
        case measure => simp [intOf]; omega
      · go_wp2
        go_ret
        rw [List.take_of_length_le (by simp; omega)]
        exact ⟨rfl, h1.below (((Below.refl _ _).alloc (Nat.le_refl _) _).drew), ((o0.trans o1).alloc _).drew⟩
  · have hd : (decide (1 ≤ k) && decide (k ≤ 6)) = true := by simp; omega
    rw [rdNumSt, if_neg hk] at hst
    obtain ⟨rfl, rfl⟩ := Prod.mk.inj hst
    clear hst hk hs
    go_enter Try.func34, Try.ntmps34
    go_wp2_with (first | (go_at_call 43; refine (isWidth_any _ _).mono ?_; rintro e w' ⟨rfl, rfl⟩) | (go_at_call 36; refine (C1.out _ h).mono ?_; rintro e w1 ⟨rfl, h1, o1⟩))
    have hcell := fun j hj => bytesRow_cell w1 sv (grownCap w1 sv.size 0 5) (bytesRow sv (grownCap w1 sv.size 0 5)).size j hj
    generalize bytesRow sv (grownCap w1 sv.size 0 5) = R at hcell ⊢
    generalize grownCap w1 sv.size 0 5 = gc at hcell ⊢
    go_loop [5, 18] (fun n i => ∃ j : Nat, j ≤ sv.size ∧ i = .int .i64 j ∧ n = .int .i64 (beN (sv.data.toList.take j))) (fun _ i => sv.size - (intOf i).toNat)
    case atStart => exact ⟨0, Nat.zero_le _, rfl, rfl⟩
    case round =>
      obtain ⟨j, hj, rfl, rfl⟩ := hrel
      by_cases hlt : j < sv.size
      · have hc := hcell j hlt
        have hlt2 := beN_le6 (sv.data.toList.take j) (by have := List.length_take_le j sv.data.toList; omega)
        go_wp2
        go_round
        case rel => exact ⟨j + 1, by omega, by go_num, by rw [or_byte _ _ hlt2, take_snoc _ _ hlt, beN_snoc]⟩
        case measure => simp [intOf]; omega
      · go_wp2
        go_ret
        rw [List.take_of_length_le (by simp; omega)]
        exact ⟨rfl, h1.below (((Below.refl _ _).alloc (Nat.le_refl _) _).drew), (o1.alloc _).drew⟩

set_option maxHeartbeats 1000000 in
theorem RText_any (b : Nat) (l : ByteArray) (e m : Int) (w : World) (hs : l.size ≤ 140737488351232) (h : isRd w b l e) :
    Calls Try.prog 24 #[.pointer (some ⟨b, 0, none⟩), .int .i64 m] w fun r w' => r = .returned (.string (rdText l e m).1) ∧ isRd w' b (rdText l e m).2.1 (rdText l e m).2.2 ∧ Off b w w' := by
  have c0 := fun w h => Num_any b l e 2 w hs h
  have hn := rdNum_lt l e 2
  have hz := Nat.le_trans (rdNum_size l e 2) hs
  unfold rdText rdTextSt
  obtain ⟨n, l1, e1, hst⟩ : ∃ n l1 e1, rdNum l e 2 = (n, l1, e1) := ⟨_, _, _, rfl⟩
  rw [hst] at c0 hn hz ⊢
  dsimp only at c0 hn hz ⊢
  have C0 : Hid _ := c0
  clear c0 hst hs
  by_cases hm : m < n
  · rw [if_pos hm]
    have hz2 := Nat.le_trans (rdFail_size l1 e1 3) hz
    have c1 := fun w h => fail_any b l1 e1 3 w h
    obtain ⟨l2, e2, hf⟩ : ∃ l2 e2, rdFail l1 e1 3 = (l2, e2) := ⟨_, _, rfl⟩
    rw [hf] at c1 hz2 ⊢
    have C1 : Hid _ := c1
    dsimp only at hz2 ⊢
    have C2 : Hid _ := fun w h => Raw_any b l2 e2 n w hz2 h
    clear c1 hf
    go_enter Try.func24, Try.ntmps24
    go_wp2_with (first | (go_at_call 34; refine (C0.out _ h).mono ?_; rintro e w1 ⟨rfl, h1, o1⟩) | (go_at_call 35; refine (C1.out _ h1).mono ?_; rintro e w2 ⟨rfl, h2, o2⟩) | (go_at_call 36; refine (C2.out _ h2).mono ?_; rintro e w3 ⟨rfl, h3, o3⟩))
    go_ret
    exact ⟨rfl, h3, (o1.trans o2).trans o3⟩
  · rw [if_neg hm]
    have C2 : Hid _ := fun w h => Raw_any b l1 e1 n w hz h
    go_enter Try.func24, Try.ntmps24
    go_wp2_with (first | (go_at_call 34; refine (C0.out _ h).mono ?_; rintro e w1 ⟨rfl, h1, o1⟩) | (go_at_call 36; refine (C2.out _ h1).mono ?_; rintro e w3 ⟨rfl, h3, o3⟩))
    go_ret
    exact ⟨rfl, h3, o1.trans o3⟩

end Go.Proofs.Ytljedbakdlhlbaa.Pk
