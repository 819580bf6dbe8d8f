/- The walks of SumSeals and SumOpens. -/
import Derived.Test.YtlgocioagndlbaaPk
import Derived.Test.YtlgocioagndlbaaJoinW
import Derived.Deep.RegionHeld3
namespace Go.Proofs.Ytlgocioagndlbaa
open Go.RowKit
set_option linter.unusedVariables false
set_option linter.unusedSimpArgs false
set_option maxRecDepth 100000

theorem below_dr {b : Nat} {a w : World} (h : Below b a w) (n : Nat) : Below b a (w.drewN n) := ⟨h.os, h.tape, h.output, h.size, h.block⟩
theorem toList_ne {a b : ByteArray} (h : ¬ a = b) : (a.toList == b.toList) = false := by
  rw [ByteArray.toList_eq, ByteArray.toList_eq, beq_eq_false_iff_ne]
  exact fun e => h (ByteArray.ext (Array.toList_inj.1 e))
theorem four_any (n : Int) (w : World) (h0 : 0 ≤ n) (hn : n < 4294967296) :
    Calls Try.prog 18 #[.int .i64 n] w fun e w' => e = .returned (.string (beS n.toNat 4)) ∧ Below w.heap.size w w' := by
  have HE : Hid (beS n.toNat 4 = ⟨#[UInt8.ofNat (n / 16777216).toNat, UInt8.ofNat (n / 65536 % 256).toNat, UInt8.ofNat (n / 256 % 256).toNat, UInt8.ofNat (n % 256).toNat]⟩) := by
    show beS n.toNat 4 = _
    have e3 : (n / 16777216).toNat = n.toNat / 16777216 % 256 := by omega
    have e2 : (n / 65536 % 256).toNat = n.toNat / 65536 % 256 := by omega
    have e1 : (n / 256 % 256).toNat = n.toNat / 256 % 256 := by omega
    have e0 : (n % 256).toNat = n.toNat % 256 := by omega
    rw [beS_4, e3, e2, e1, e0]
  go_enter Try.func18, Try.ntmps18
  go_wp2
  rw [run_convert_bytes_arg (P := Try.prog) _ 31 5 Try.underlying31 Try.underlying5 w.heap.size 0 4 4 [n / 16777216, n / 65536 % 256, n / 256 % 256, n % 256] rfl ?hc 9 Try.underlying9]
  case hc =>
    intro i hi
    have : i = 0 ∨ i = 1 ∨ i = 2 ∨ i = 3 := by omega
    rcases this with rfl | rfl | rfl | rfl <;> simp [go_sem]
  go_wp2
  go_ret
  rw [HE.out]
  exact ⟨rfl, (Below.refl _ _).alloc (Nat.le_refl _) _⟩
theorem nil_append (s : ByteArray) : (⟨#[]⟩ : ByteArray) ++ s = s := by apply ByteArray.ext; simp [ByteArray.data_append]
theorem Put_four (n : Int) (w : World) (h0 : 0 ≤ n) (hn : n < 4294967296) :
    Calls Try.prog 23 #[.string ⟨#[]⟩, .int .i64 n, .int .i64 4] w fun e w' => e = .returned (.tuple #[.string (beS n.toNat 4), .int .i64 0]) ∧ Below w.heap.size w w' := by
  have hz : (beS n.toNat 4).size ≤ 6 := by rw [beS_size]; omega
  have C1 : Hid (∀ w, Calls Try.prog 31 #[.int .i64 n, .int .i64 4] w fun e w' => e = .returned (.string (beS n.toNat 4)) ∧ Below w.heap.size w w') := by
    intro w
    have h := num_4 n.toNat w (by omega)
    rw [Int.toNat_of_nonneg h0] at h
    exact h
  go_enter Try.func23, Try.ntmps23
  go_wp2_with (first | (go_at_call 30; refine (isWidth_any _ _).mono ?_; rintro e w' ⟨rfl, rfl⟩) | (go_at_call 31; refine (C1.out _).mono ?_; rintro e w1 ⟨rfl, hb⟩))
  go_ret2
  rw [nil_append]
  exact ⟨rfl, hb⟩
theorem Read_any (s : ByteArray) (w : World) :
    Calls Try.prog 24 #[.string s] w fun e w' => e = .returned (.pointer (some ⟨w.heap.size, 0, none⟩)) ∧ isRd w' w.heap.size s 0 ∧ Below w.heap.size w w' := by
  go_enter Try.func24, Try.ntmps24
  go_wp2
  go_ret
  exact ⟨rfl, (MapKept.heap_alloc w _).1, (Below.refl _ _).alloc (Nat.le_refl _) _⟩

theorem sumI_nonneg (s : ByteArray) : 0 ≤ sumI s := vI_nonneg _
theorem sumI_lt (s : ByteArray) : sumI s < 4294967296 := vI_lt _
/-- A text with its sum ahead. -/
def sealV (s : ByteArray) : ByteArray := beS (sumI s).toNat 4 ++ s
theorem Seal_any (s : ByteArray) (w : World) (hs : s.size ≤ 140737488351232) :
    Calls Try.prog 16 #[.string s] w fun e w' => e = .returned (.string (sealV s)) ∧ Below w.heap.size w w' := by
  have hz : (beS (sumI s).toNat 4).size ≤ 6 := by rw [beS_size]; omega
  have C1 : Hid _ := fun w => Sum_I s w (by omega)
  have C2 : Hid _ := fun w => Put_four (sumI s) w (sumI_nonneg s) (sumI_lt s)
  have HV : Hid (sealV s = beS (sumI s).toNat 4 ++ s) := by rfl
  generalize sumI s = n at *
  generalize sealV s = v at *
  generalize beS n.toNat 4 = b at *
  go_enter Try.func16, Try.ntmps16
  go_wp2_with (first | (go_at_call 10; refine (C1.out _).mono ?_; rintro e w1 ⟨rfl, hb1⟩) | (go_at_call 23; refine (C2.out _).mono ?_; rintro e w2 ⟨rfl, hb2⟩))
  go_ret
  rw [HV.out]
  exact ⟨rfl, hb1.trans (hb2.mono hb1.size)⟩
/-- What Open returns. -/
def openV (s : ByteArray) : ByteArray × Int :=
  if s.size < 4 then (⟨#[]⟩, 2) else if sumI (s.extract 4 s.size) = beN (s.extract 0 4).data.toList then (s.extract 4 s.size, 0) else (⟨#[]⟩, 5)
theorem rdNum_four (s : ByteArray) (h : ¬ s.size < 4) : rdNum s 0 4 = (beN (s.extract 0 4).data.toList, s.extract 4 s.size, 0) := by
  have e1 : rdNumSt s 0 4 = (s, 0) := by unfold rdNumSt; rw [if_neg (by omega)]
  have e2 : rdRaw s 0 4 = (s.extract 0 4, s.extract 4 s.size, 0) := rdRaw_fits (by omega) (by omega)
  unfold rdNum
  rw [e1]
  dsimp only
  rw [e2]
theorem rdNum_short (s : ByteArray) (h : s.size < 4) : rdNum s 0 4 = (0, ⟨#[]⟩, 2) := by
  have e1 : rdNumSt s 0 4 = (s, 0) := by unfold rdNumSt; rw [if_neg (by omega)]
  have e2 : rdRaw s 0 4 = (⟨#[]⟩, ⟨#[]⟩, 2) := rdRaw_short (by omega) (by omega)
  unfold rdNum
  rw [e1]
  dsimp only
  rw [e2]
  rfl
theorem rdRaw_all (l : ByteArray) : rdRaw l 0 (l.size : Int) = (l, ⟨#[]⟩, 0) := by
  rw [rdRaw_fits (by omega) (by omega), Int.toNat_natCast]
  have e1 : l.extract 0 l.size = l := by apply ByteArray.ext; simp [ByteArray.data_extract]
  have e2 : l.extract l.size l.size = ⟨#[]⟩ := by apply ByteArray.ext; simp [ByteArray.data_extract]
  rw [e1, e2]
set_option maxHeartbeats 1000000 in
theorem Open_any (s : ByteArray) (w : World) (hs : s.size ≤ 140737488351232) :
    Calls Try.prog 17 #[.string s] w fun e w' => e = .returned (.tuple #[.string (openV s).1, .int .i64 (openV s).2]) ∧ Below w.heap.size w w' := by
  unfold openV
  by_cases h4 : s.size < 4
  · rw [if_pos h4]
    have c1 := fun b w h => Num_any b s 0 4 w hs h
    rw [rdNum_short s h4] at c1
    dsimp only at c1
    have C1 : Hid _ := c1
    have C2 : Hid _ := fun b w h => Left_any b ⟨#[]⟩ 2 w (Nat.zero_le _) h
    have c3 := fun b w h => Raw_any b ⟨#[]⟩ 2 0 w (Nat.zero_le _) h
    rw [rdRaw_had (by decide)] at c3
    dsimp only at c3
    have C3 : Hid _ := c3
    have C4 : Hid _ := fun b w h => Err_any b ⟨#[]⟩ 2 w h
    clear c1 c3 hs h4
    go_enter Try.func17, Try.ntmps17
    go_wp2_with (first | (go_at_call 24; refine (Read_any _ _).mono ?_; rintro e w1 ⟨rfl, h1, b1⟩) | (go_at_call 25; refine (C1.out _ _ h1).mono ?_; rintro e w2 ⟨rfl, h2, o2⟩) | (go_at_call 27; refine (C2.out _ _ h2).mono ?_; rintro e w3 ⟨rfl, rfl⟩) | (go_at_call 26; refine (C3.out _ _ h2).mono ?_; rintro e w4 ⟨rfl, h4, o4⟩) | (go_at_call 28; refine (C4.out _ _ h4).mono ?_; rintro e w5 ⟨rfl, rfl⟩))
    go_ret2
    exact ⟨rfl, b1.trans ((o2.trans o4).below (Nat.le_refl _) b1.size)⟩
  · rw [if_neg h4]
    have c1 := fun b w h => Num_any b s 0 4 w hs h
    rw [rdNum_four s h4] at c1
    dsimp only at c1
    have hl : (s.extract 4 s.size).size ≤ 140737488351232 := by rw [ByteArray.size_extract]; omega
    generalize s.extract 4 s.size = l at *
    generalize beN (s.extract 0 4).data.toList = k at *
    have C1 : Hid _ := c1
    have C2 : Hid _ := fun b w h => Left_any b l 0 w hl h
    have c3 := fun b w h => Raw_any b l 0 l.size w hl h
    rw [rdRaw_all] at c3
    dsimp only at c3
    have C3 : Hid _ := c3
    have C4 : Hid _ := fun b w h => Err_any b ⟨#[]⟩ 0 w h
    have C5 : Hid _ := fun w => Sum_I l w (by omega)
    clear c1 c3 hs h4 hl
    by_cases he : sumI l = k
    · rw [if_pos he]
      have ht : (sumI l != (k : Int)) = false := by rw [he]; simp
      clear he
      go_enter Try.func17, Try.ntmps17
      go_wp2_with (first | (go_at_call 24; refine (Read_any _ _).mono ?_; rintro e w1 ⟨rfl, h1, b1⟩) | (go_at_call 25; refine (C1.out _ _ h1).mono ?_; rintro e w2 ⟨rfl, h2, o2⟩) | (go_at_call 27; refine (C2.out _ _ h2).mono ?_; rintro e w3 ⟨rfl, rfl⟩) | (go_at_call 26; refine (C3.out _ _ h2).mono ?_; rintro e w4 ⟨rfl, h4, o4⟩) | (go_at_call 28; refine (C4.out _ _ h4).mono ?_; rintro e w5 ⟨rfl, rfl⟩) | (go_at_call 10; refine (C5.out _).mono ?_; rintro e w6 ⟨rfl, b6⟩))
      go_ret2
      have b4 := b1.trans ((o2.trans o4).below (Nat.le_refl _) b1.size)
      exact ⟨rfl, b4.trans (b6.mono b4.size)⟩
    · rw [if_neg he]
      have ht : (sumI l != (k : Int)) = true := by simpa using he
      clear he
      go_enter Try.func17, Try.ntmps17
      go_wp2_with (first | (go_at_call 24; refine (Read_any _ _).mono ?_; rintro e w1 ⟨rfl, h1, b1⟩) | (go_at_call 25; refine (C1.out _ _ h1).mono ?_; rintro e w2 ⟨rfl, h2, o2⟩) | (go_at_call 27; refine (C2.out _ _ h2).mono ?_; rintro e w3 ⟨rfl, rfl⟩) | (go_at_call 26; refine (C3.out _ _ h2).mono ?_; rintro e w4 ⟨rfl, h4, o4⟩) | (go_at_call 28; refine (C4.out _ _ h4).mono ?_; rintro e w5 ⟨rfl, rfl⟩) | (go_at_call 10; refine (C5.out _).mono ?_; rintro e w6 ⟨rfl, b6⟩))
      go_ret2
      have b4 := b1.trans ((o2.trans o4).below (Nat.le_refl _) b1.size)
      exact ⟨rfl, b4.trans (b6.mono b4.size)⟩
theorem open_seal (s : ByteArray) : openV (beS (sumI s).toNat 4 ++ s) = (s, 0) := by
  have hz := beS_size (sumI s).toNat 4
  have h0 := sumI_nonneg s
  have h1 := sumI_lt s
  have e1 := extract_left (beS (sumI s).toNat 4) s
  have e2 := extract_right (beS (sumI s).toNat 4) s
  have e3 : (beS (sumI s).toNat 4).data.toList = be (sumI s).toNat 4 := by simp [beS]
  have e4 := beN_be 4 (sumI s).toNat (by omega)
  rw [hz] at e1 e2
  unfold openV
  rw [if_neg (by rw [ByteArray.size_append, hz]; omega), e1, e2, e3, e4, if_pos (by omega)]
set_option maxHeartbeats 1000000 in
theorem sumSeals_walk (s : ByteArray) (w : World) (hs : s.size ≤ 140737488351232) :
    Calls Try.prog 6 #[.string s] w fun e w' => e = .returned (.bool true) ∧ Below w.heap.size w w' := by
  have hc := cutV_size s
  have C0 : Hid _ := fun w => cut_any s w (by omega)
  generalize cutV s = t at *
  have c1 := fun w => Seal_any t w (by omega)
  have hz := beS_size (sumI t).toNat 4
  have e0 := open_seal t
  have c2 := fun w => Open_any (beS (sumI t).toNat 4 ++ t) w (by rw [ByteArray.size_append, hz]; omega)
  rw [e0] at c2
  dsimp only at c2
  unfold sealV at c1
  have C1 : Hid _ := c1
  have C2 : Hid _ := c2
  have C3 : Hid _ := fun w => of_I t w (by omega)
  have C4 : Hid _ := fun w => four_any (sumI t) w (sumI_nonneg t) (sumI_lt t)
  clear e0 c1 c2 hs
  generalize beS (sumI t).toNat 4 = b at *
  generalize sumI t = n at *
  go_enter Try.func6, Try.ntmps6
  go_wp2_with (first | (go_at_call 9; refine (C0.out _).mono ?_; rintro e w0 ⟨rfl, rfl⟩) | (go_at_call 16; refine (C1.out _).mono ?_; rintro e w1 ⟨rfl, b1⟩) | (go_at_call 17; refine (C2.out _).mono ?_; rintro e w2 ⟨rfl, b2⟩) | (go_at_call 11; refine (C3.out _).mono ?_; rintro e w3 ⟨rfl, rfl⟩) | (go_at_call 18; refine (C4.out _).mono ?_; rintro e w4 ⟨rfl, b4⟩) | (go_at_call 12; refine (awake_any _).mono ?_; rintro e w5 ⟨rfl, b5⟩))
  go_ret
  have z1 := b1.size
  have b12 := b1.trans (b2.mono z1)
  have b124 := b12.trans (b4.mono b12.size)
  exact ⟨rfl, b124.trans (b5.mono b124.size)⟩
theorem be_beN4 (a b c d : UInt8) : be (beN [a, b, c, d]) 4 = [a, b, c, d] := by
  have ha := a.toNat_lt
  have hb := b.toNat_lt
  have hc := c.toNat_lt
  have hd := d.toNat_lt
  have e : beN [a, b, c, d] = a.toNat * 16777216 + b.toNat * 65536 + c.toNat * 256 + d.toNat := by simp [beN]; omega
  rw [e]
  have key : ∀ (n : Nat) (x : UInt8), n = x.toNat → UInt8.ofNat n = x := by rintro n x rfl; simp
  show [UInt8.ofNat (_ / 256 ^ 3 % 256), UInt8.ofNat (_ / 256 ^ 2 % 256), UInt8.ofNat (_ / 256 ^ 1 % 256), UInt8.ofNat (_ / 256 ^ 0 % 256)] = _
  rw [key _ a (by omega), key _ b (by omega), key _ c (by omega), key _ d (by omega)]
theorem head_iff (h : ByteArray) (hz : h.size = 4) (n : Nat) (hn : n < 4294967296) : h = beS n 4 ↔ n = beN h.data.toList := by
  obtain ⟨a, b, c, d, he⟩ : ∃ a b c d, h.data.toList = [a, b, c, d] := by
    have hl : h.data.toList.length = 4 := by simpa using hz
    match hm : h.data.toList, hl with
    | [a, b, c, d], _ => exact ⟨a, b, c, d, rfl⟩
  constructor
  · rintro rfl
    have e3 : (beS n 4).data.toList = be n 4 := by simp [beS]
    rw [e3, beN_be 4 n (by omega)]
  · rintro rfl
    apply ByteArray.ext
    apply Array.toList_inj.1
    have e3 : (beS (beN h.data.toList) 4).data.toList = be (beN h.data.toList) 4 := by simp [beS]
    rw [e3, he, be_beN4]
set_option maxHeartbeats 1000000 in
theorem sumOpens_walk (s : ByteArray) (w : World) (hs : s.size ≤ 140737488351232) :
    Calls Try.prog 7 #[.string s] w fun e w' => e = .returned (.bool true) ∧ Below w.heap.size w w' := by
  have hc := cutV_size s
  have C0 : Hid _ := fun w => cut_any s w (by omega)
  generalize cutV s = t at *
  clear hs
  have c2 := fun w => Open_any t w (by omega)
  unfold openV at c2
  by_cases h4 : t.size < 4
  · rw [if_pos h4] at c2
    dsimp only at c2
    have C2 : Hid _ := c2
    clear c2
    go_enter Try.func7, Try.ntmps7
    go_wp2_with (first | (go_at_call 9; refine (C0.out _).mono ?_; rintro e w0 ⟨rfl, rfl⟩) | (go_at_call 17; refine (C2.out _).mono ?_; rintro e w2 ⟨rfl, b2⟩) | (go_at_call 12; refine (awake_any _).mono ?_; rintro e w5 ⟨rfl, b5⟩))
    go_ret
    exact ⟨rfl, b2.trans (b5.mono b2.size)⟩
  · rw [if_neg h4] at c2
    have C3 : Hid _ := fun w => of_I (t.extract 4 t.size) w (by rw [ByteArray.size_extract]; omega)
    have C4 : Hid _ := fun w => four_any (sumI (t.extract 4 t.size)) w (sumI_nonneg _) (sumI_lt _)
    have hiff := head_iff (t.extract 0 4) (by rw [ByteArray.size_extract]; omega) (sumI (t.extract 4 t.size)).toNat (by have := sumI_lt (t.extract 4 t.size); omega)
    have hnn := sumI_nonneg (t.extract 4 t.size)
    by_cases he : sumI (t.extract 4 t.size) = beN (t.extract 0 4).data.toList
    · rw [if_pos he] at c2
      dsimp only at c2
      have hq : t.extract 0 4 = beS (sumI (t.extract 4 t.size)).toNat 4 := hiff.mpr (by omega)
      have C2 : Hid _ := c2
      clear c2 hiff he hnn
      generalize beS (sumI (t.extract 4 t.size)).toNat 4 = b at *
      generalize sumI (t.extract 4 t.size) = n at *
      go_enter Try.func7, Try.ntmps7
      go_wp2_with (first | (go_at_call 9; refine (C0.out _).mono ?_; rintro e w0 ⟨rfl, rfl⟩) | (go_at_call 17; refine (C2.out _).mono ?_; rintro e w2 ⟨rfl, b2⟩))
      go_region_held3 (fun _ => True) (first | trivial | go_keep) (first | (go_at_call 11; refine (C3.out _).mono ?_; rintro _ w3 ⟨rfl, rfl⟩) | (go_at_call 18; refine (C4.out _).mono ?_; rintro _ w4 ⟨rfl, b4⟩))
      go_wp2_with (go_at_call 12; refine (awake_any _).mono ?_; rintro e w5 ⟨rfl, b5⟩)
      go_ret
      have b24 := (below_dr b2 _).trans (b4.mono b2.size)
      exact ⟨rfl, b24.trans (b5.mono b24.size)⟩
    · rw [if_neg he] at c2
      dsimp only at c2
      have hq : ((t.extract 0 4).toList == (beS (sumI (t.extract 4 t.size)).toNat 4).toList) = false :=
        toList_ne (fun hh => he (by have := hiff.mp hh; omega))
      have C2 : Hid _ := c2
      clear c2 hiff he hnn
      generalize beS (sumI (t.extract 4 t.size)).toNat 4 = b at *
      generalize sumI (t.extract 4 t.size) = n at *
      go_enter Try.func7, Try.ntmps7
      go_wp2_with (first | (go_at_call 9; refine (C0.out _).mono ?_; rintro e w0 ⟨rfl, rfl⟩) | (go_at_call 17; refine (C2.out _).mono ?_; rintro e w2 ⟨rfl, b2⟩))
      go_region_held3 (fun _ => True) (first | trivial | go_keep) (first | (go_at_call 11; refine (C3.out _).mono ?_; rintro _ w3 ⟨rfl, rfl⟩) | (go_at_call 18; refine (C4.out _).mono ?_; rintro _ w4 ⟨rfl, b4⟩))
      go_wp2_with (go_at_call 12; refine (awake_any _).mono ?_; rintro e w5 ⟨rfl, b5⟩)
      go_ret
      have b24 := (below_dr b2 _).trans (b4.mono b2.size)
      exact ⟨rfl, b24.trans (b5.mono b24.size)⟩
end Go.Proofs.Ytlgocioagndlbaa
