/- The sum that goes on over a text: what More and Sum of the layer return. The law's own register over a text, bit by bit; its sum; the example; the program's Sum. The layer sum's Seal and Open, over pack's contracts. The program's read: readPlaces, readChange, readImages, readTable. The program's read: readChange, readImages, readTable. -/
import Derived.Test.YtgodjnbbocnckaaGreatMah
import Derived.Lib.SmallJoins
import Derived.Lib.SlBytesRow
import Derived.Test.YtgodjnbbocnckaaGreatMae
import Derived.Deep.RegionHeld3
import Derived.Test.YtgodjnbbocnckaaGreatMag
namespace Go.Proofs.YtgodjnbbocnckaaGreat.Sm
open Go.RowKit
set_option linter.unusedVariables false
set_option linter.unusedSimpArgs false
set_option maxRecDepth 100000

theorem ofB_vI (b : UInt8) : (b.toNat : Int) = vI (ofB b) := by
  unfold vI ofB
  have := b.toNat_lt
  rw [BitVec.toNat_ofNat]
  omega
theorem ofB_mod (b : UInt8) : (b.toNat : Int) % 4294967296 = vI (ofB b) := by
  rw [← ofB_vI]
  have := b.toNat_lt
  omega
/-- One half of a byte, as the program steps. -/
theorem half_facts (c : R) : ∃ (n : Nat) (s d : R), bits .and .u32 (vI c) 15 = (n : Int) ∧ n < 16 ∧ (tab 16)[n]? = some (.int .u32 (vI d)) ∧ vI c / (16 : Int) = vI s ∧ bits .xor .u32 (vI s) (vI d) = vI (stn 4 c) := by
  have e15 : (15 : Int) = vI 15#32 := rfl
  have hlt : (c &&& 15#32).toNat < 16 := by
    rw [BitVec.toNat_and]
    have : c.toNat &&& (15#32).toNat ≤ 15 := Nat.and_le_right
    omega
  refine ⟨(c &&& 15#32).toNat, c >>> 4, stn 4 (c &&& 15#32), ?_, hlt, ?_, shr32_4 c, ?_⟩
  · rw [e15, and32]; rfl
  · rw [tab_get 16 _ hlt, if_pos hlt, BitVec.ofNat_toNat]
    simp
  · rw [xor32, ← four_steps]
theorem not32 (n : Int) : bits .xor .u32 IntKind.u32.max (n % 4294967296) = vI (BitVec.ofInt 32 n ^^^ ones) := by
  have e1 : IntKind.u32.max = vI ones := rfl
  have e2 : n % 4294967296 = vI (BitVec.ofInt 32 n) := by
    unfold vI
    rw [BitVec.toNat_ofInt]
    omega
  rw [e1, e2, xor32, BitVec.xor_comm]
theorem not32_vI (c : R) : bits .xor .u32 IntKind.u32.max (vI c) = vI (c ^^^ ones) := by
  have e1 : IntKind.u32.max = vI ones := rfl
  rw [e1, xor32, BitVec.xor_comm]
theorem take_snoc (s : ByteArray) (k : Nat) (h : k < s.size) : s.data.toList.take (k + 1) = s.data.toList.take k ++ [s[k]] := by
  rw [List.take_succ_eq_append_getElem (by simpa using h)]; rfl
theorem bytesRow_cell (w : World) (s : ByteArray) (c m : Nat) (k : Nat) (h : k < s.size) :
    (w.alloc (.cells (bytesRow s c) 5 (m, m + 1))).cell? ⟨w.heap.size, k, none⟩ = some (.int .u8 (s[k].toNat : Int)) := by
  rw [World.cell?_alloc_mark]
  have h' : k < s.data.size := h
  simp only [bytesRow]
  rw [Array.getElem?_append_left (by simpa using h')]
  rw [Array.getElem?_map, Array.getElem?_eq_getElem h']
  rfl
theorem runB_snoc (c : R) (l : List UInt8) (b : UInt8) : runB c (l ++ [b]) = stn 4 (stn 4 (runB c l ^^^ ofB b)) := by
  rw [runB_append, ← stn_add]
  rfl
theorem More_any (n : Int) (s : ByteArray) (w : World) (hs : s.size ≤ 281474976710656) :
    Calls Tryz.prog 142 #[.int .i64 n, .string s] w fun e w' => e = .returned (.int .i64 (vI (moreB (BitVec.ofInt 32 n) s.data.toList))) ∧ Below w.heap.size w w' := by
  have hcv := fun w s => run_bytes_of_string (P := Tryz.prog) w 9 94 5 s Tryz.underlying9 Tryz.underlying94 Tryz.underlying5
  obtain ⟨C, hC⟩ : ∃ C, BitVec.ofInt 32 n ^^^ ones = C := ⟨_, rfl⟩
  have h0 := not32 n
  have hm : moreB (BitVec.ofInt 32 n) s.data.toList = runB C s.data.toList ^^^ ones := by rw [moreB, hC]
  rw [hC] at h0
  rw [hm]
  clear hm hC
  go_enter Tryz.func142, Tryz.ntmps142
  go_wp2_with (go_at_call 162; refine (fourShifts_lit _).mono ?_; rintro e w1 ⟨rfl, hb1⟩)
  rw [← tab_full]
  generalize grownCap (w1.alloc (Obj.cells (tab 16) 217)) s.size 0 5 = gc
  have hrow : ∀ j (hj : j < s.size), ((w1.alloc (Obj.cells (tab 16) 217)).alloc (Obj.cells (bytesRow s gc) 5 ((bytesRow s gc).size, (bytesRow s gc).size + 1))).drew.cell? ⟨w1.heap.size + 1, j, none⟩ = some (.int .u8 (s[j].toNat : Int)) := by
    intro j hj
    have := bytesRow_cell (w1.alloc (Obj.cells (tab 16) 217)) s gc (bytesRow s gc).size j hj
    simpa [go_sem] using this
  have htab : ∀ j, ((w1.alloc (Obj.cells (tab 16) 217)).alloc (Obj.cells (bytesRow s gc) 5 ((bytesRow s gc).size, (bytesRow s gc).size + 1))).drew.cell? ⟨w1.heap.size, j, none⟩ = (tab 16)[j]? := by
    intro j
    simp [go_sem]
  have hbel : Below w.heap.size w ((w1.alloc (Obj.cells (tab 16) 217)).alloc (Obj.cells (bytesRow s gc) 5 ((bytesRow s gc).size, (bytesRow s gc).size + 1))).drew :=
    ((hb1.alloc hb1.size _).alloc (by have := hb1.size; simp; omega) _).drew
  generalize ((w1.alloc (Obj.cells (tab 16) 217)).alloc (Obj.cells (bytesRow s gc) 5 ((bytesRow s gc).size, (bytesRow s gc).size + 1))).drew = W at hrow htab hbel ⊢
  have HR : Hid _ := hrow
  have HT : Hid _ := htab
  have HB : Hid _ := hbel
  clear hrow htab hbel hcv
  go_loop [6, 16] (fun r i => ∃ j : Nat, j ≤ s.size ∧ i = .int .i64 j ∧ r = .int .u32 (vI (runB C (s.data.toList.take j)))) (fun _ i => s.size - (intOf i).toNat)
  case atStart => exact ⟨0, Nat.zero_le _, rfl, rfl⟩
  case round =>
    obtain ⟨j, hj, rfl, rfl⟩ := hrel
    by_cases hlt : j < s.size
    · have hc := HR.out j hlt
      have HS : Hid _ := runB_snoc C (s.data.toList.take j) s[j]
      have HS2 : Hid _ := take_snoc s j hlt
      have e1 := xor32 (runB C (s.data.toList.take j)) (ofB s[j])
      rw [← ofB_mod] at e1
      generalize runB C (s.data.toList.take j) = c0 at *
      generalize c0 ^^^ ofB s[j] = c1 at *
      obtain ⟨n1, s1, d1, f1, g1, t1, k1, x1⟩ := half_facts c1
      have T1 := HT.out n1
      rw [t1] at T1
      generalize stn 4 c1 = c2 at *
      obtain ⟨n2, s2, d2, f2, g2, t2, k2, x2⟩ := half_facts c2
      have T2 := HT.out n2
      rw [t2] at T2
      generalize stn 4 c2 = c3 at *
      clear t1 t2
      go_wp2
      go_round
      case rel => exact ⟨j + 1, by omega, by go_num, by rw [HS2.out, HS.out]⟩
      case measure => simp [intOf]; omega
    · have hn := not32_vI (runB C (s.data.toList.take j))
      have hw := wrap64_vI (runB C (s.data.toList.take j) ^^^ ones)
      rw [List.take_of_length_le (by simp; omega)] at *
      go_wp2
      go_ret
      exact ⟨rfl, HB.out⟩
end Go.Proofs.YtgodjnbbocnckaaGreat.Sm

namespace Go.Proofs.YtgodjnbbocnckaaGreat.Sm
open Go.RowKit
set_option linter.unusedVariables false
set_option linter.unusedSimpArgs false
set_option maxRecDepth 100000

theorem Sum_any (s : ByteArray) (w : World) (hs : s.size ≤ 281474976710656) :
    Calls Tryz.prog 112 #[.string s] w fun e w' => e = .returned (.int .i64 (vI (sumB s.data.toList))) ∧ Below w.heap.size w w' := by
  have C1 : Hid (∀ w, Calls Tryz.prog 142 #[.int .i64 0, .string s] w fun e w' => e = .returned (.int .i64 (vI (sumB s.data.toList))) ∧ Below w.heap.size w w') := by
    intro w
    have := More_any 0 s w hs
    rw [show BitVec.ofInt 32 0 = 0#32 from rfl, more_zero] at this
    exact this
  clear hs
  go_enter Tryz.func112, Tryz.ntmps112
  go_wp2_with (go_at_call 142; refine (C1.out _).mono ?_; rintro e w1 ⟨rfl, hb1⟩)
  go_ret
  exact ⟨rfl, hb1⟩

theorem ofB_wrap (b : UInt8) : wrap64 (b.toNat : Int) = vI (ofB b) := by
  rw [ofB_vI, wrap64_vI]
theorem quo_two (c : R) : wrap64 ((vI c).tdiv 2) = vI (c >>> 1) := by
  rw [Int.tdiv_eq_ediv_of_nonneg (vI_nonneg c), shr32, wrap64_vI]
theorem mod_two (c : R) : vI c % (2 : Int) = if c.getLsbD 0 then 1 else 0 := by
  unfold vI
  have : c.getLsbD 0 = decide (c.toNat % 2 = 1) := by
    rw [BitVec.getLsbD, Nat.testBit_zero]
  rw [this]
  by_cases h : c.toNat % 2 = 1
  · simp [h]; omega
  · simp [h]; omega
def cutV (s : ByteArray) : ByteArray := if 3000 < s.size then s.extract 0 3000 else s
theorem cutV_size (s : ByteArray) : (cutV s).size ≤ 3000 := by
  unfold cutV
  split
  · rw [ByteArray.size_extract]; omega
  · omega
end Go.Proofs.YtgodjnbbocnckaaGreat.Sm

namespace Go.Proofs.YtgodjnbbocnckaaGreat.Sm
open Go.RowKit Go.Proofs.YtgodjnbbocnckaaGreat.Pk
set_option linter.unusedVariables false
set_option linter.unusedSimpArgs false
set_option maxRecDepth 100000

def sumI (s : ByteArray) : Int := vI (sumB s.data.toList)

theorem Sum_I (s : ByteArray) (w : World) (hs : s.size ≤ 281474976710656) :
    Calls Tryz.prog 112 #[.string s] w fun e w' => e = .returned (.int .i64 (sumI s)) ∧ Below w.heap.size w w' := Sum_any s w hs

theorem below_dr {b : Nat} {a w : World} (h : Below b a w) (n : Nat) : Below b a (w.drewN n) := ⟨h.os, h.tape, h.output, h.size, h.block⟩

theorem nil_append (s : ByteArray) : (⟨#[]⟩ : ByteArray) ++ s = s := by apply ByteArray.ext; simp [ByteArray.data_append]

theorem Put_four (n : Int) (w : World) (h0 : 0 ≤ n) (hn : n < 4294967296) :
    Calls Tryz.prog 98 #[.string ⟨#[]⟩, .int .i64 n, .int .i64 4] w fun e w' => e = .returned (.tuple #[.string (beS n.toNat 4), .int .i64 0]) ∧ Below w.heap.size w w' := by
  have hz : (beS n.toNat 4).size ≤ 6 := by rw [beS_size]; omega
  have C1 : Hid (∀ w, Calls Tryz.prog 121 #[.int .i64 n, .int .i64 4] w fun e w' => e = .returned (.string (beS n.toNat 4)) ∧ Below w.heap.size w w') := by
    intro w
    have h := num_4 n.toNat w (by omega)
    rw [Int.toNat_of_nonneg h0] at h
    exact h
  go_enter Tryz.func98, Tryz.ntmps98
  go_wp2_with (first | (go_at_call 87; refine (isWidth_any _ _).mono ?_; rintro e w' ⟨rfl, rfl⟩) | (go_at_call 121; refine (C1.out _).mono ?_; rintro e w1 ⟨rfl, hb⟩))
  go_ret2
  rw [nil_append]
  exact ⟨rfl, hb⟩

theorem Read_any (s : ByteArray) (w : World) :
    Calls Tryz.prog 69 #[.string s] w fun e w' => e = .returned (.pointer (some ⟨w.heap.size, 0, none⟩)) ∧ isRd w' w.heap.size s 0 ∧ Below w.heap.size w w' := by
  go_enter Tryz.func69, Tryz.ntmps69
  go_wp2
  go_ret
  exact ⟨rfl, (MapKept.heap_alloc w _).1, (Below.refl _ _).alloc (Nat.le_refl _) _⟩

theorem sumI_nonneg (s : ByteArray) : 0 ≤ sumI s := vI_nonneg _

theorem sumI_lt (s : ByteArray) : sumI s < 4294967296 := vI_lt _

/-- A text with its sum ahead. -/
def sealV (s : ByteArray) : ByteArray := beS (sumI s).toNat 4 ++ s

theorem Seal_any (s : ByteArray) (w : World) (hs : s.size ≤ 140737488351232) :
    Calls Tryz.prog 99 #[.string s] w fun e w' => e = .returned (.string (sealV s)) ∧ Below w.heap.size w w' := by
  have hz : (beS (sumI s).toNat 4).size ≤ 6 := by rw [beS_size]; omega
  have C1 : Hid _ := fun w => Sum_I s w (by omega)
  have C2 : Hid _ := fun w => Put_four (sumI s) w (sumI_nonneg s) (sumI_lt s)
  have HV : Hid (sealV s = beS (sumI s).toNat 4 ++ s) := by rfl
  generalize sumI s = n at *
  generalize sealV s = v at *
  generalize beS n.toNat 4 = b at *
  go_enter Tryz.func99, Tryz.ntmps99
  go_wp2_with (first | (go_at_call 112; refine (C1.out _).mono ?_; rintro e w1 ⟨rfl, hb1⟩) | (go_at_call 98; refine (C2.out _).mono ?_; rintro e w2 ⟨rfl, hb2⟩))
  go_ret
  rw [HV.out]
  exact ⟨rfl, hb1.trans (hb2.mono hb1.size)⟩

/-- What Open returns. -/
def openV (s : ByteArray) : ByteArray × Int :=
  if s.size < 4 then (⟨#[]⟩, 2) else if sumI (s.extract 4 s.size) = beN (s.extract 0 4).data.toList then (s.extract 4 s.size, 0) else (⟨#[]⟩, 5)

theorem rdNum_four (s : ByteArray) (h : ¬ s.size < 4) : rdNum s 0 4 = (beN (s.extract 0 4).data.toList, s.extract 4 s.size, 0) := by
  have e1 : rdNumSt s 0 4 = (s, 0) := by unfold rdNumSt; rw [if_neg (by omega)]
  have e2 : rdRaw s 0 4 = (s.extract 0 4, s.extract 4 s.size, 0) := rdRaw_fits (by omega) (by omega)
  unfold rdNum
  rw [e1]
  dsimp only
  rw [e2]

theorem rdNum_short (s : ByteArray) (h : s.size < 4) : rdNum s 0 4 = (0, ⟨#[]⟩, 2) := by
  have e1 : rdNumSt s 0 4 = (s, 0) := by unfold rdNumSt; rw [if_neg (by omega)]
  have e2 : rdRaw s 0 4 = (⟨#[]⟩, ⟨#[]⟩, 2) := rdRaw_short (by omega) (by omega)
  unfold rdNum
  rw [e1]
  dsimp only
  rw [e2]
  rfl

theorem rdRaw_all (l : ByteArray) : rdRaw l 0 (l.size : Int) = (l, ⟨#[]⟩, 0) := by
  rw [rdRaw_fits (by omega) (by omega), Int.toNat_natCast]
  have e1 : l.extract 0 l.size = l := by apply ByteArray.ext; simp [ByteArray.data_extract]
  have e2 : l.extract l.size l.size = ⟨#[]⟩ := by apply ByteArray.ext; simp [ByteArray.data_extract]
  rw [e1, e2]

set_option maxHeartbeats 1000000 in
theorem Open_any (s : ByteArray) (w : World) (hs : s.size ≤ 140737488351232) :
    Calls Tryz.prog 94 #[.string s] w fun e w' => e = .returned (.tuple #[.string (openV s).1, .int .i64 (openV s).2]) ∧ Below w.heap.size w w' := by
  unfold openV
  by_cases h4 : s.size < 4
  · rw [if_pos h4]
    have c1 := fun b w h => Num_any b s 0 4 w hs h
    rw [rdNum_short s h4] at c1
    dsimp only at c1
    have C1 : Hid _ := c1
    have C2 : Hid _ := fun b w h => Left_any b ⟨#[]⟩ 2 w (Nat.zero_le _) h
    have c3 := fun b w h => Raw_any b ⟨#[]⟩ 2 0 w (Nat.zero_le _) h
    rw [rdRaw_had (by decide)] at c3
    dsimp only at c3
    have C3 : Hid _ := c3
    have C4 : Hid _ := fun b w h => Err_any b ⟨#[]⟩ 2 w h
    clear c1 c3 hs h4
    go_enter Tryz.func94, Tryz.ntmps94
    go_wp2_with (first | (go_at_call 69; refine (Read_any _ _).mono ?_; rintro e w1 ⟨rfl, h1, b1⟩) | (go_at_call 70; refine (C1.out _ _ h1).mono ?_; rintro e w2 ⟨rfl, h2, o2⟩) | (go_at_call 90; refine (C2.out _ _ h2).mono ?_; rintro e w3 ⟨rfl, rfl⟩) | (go_at_call 72; refine (C3.out _ _ h2).mono ?_; rintro e w4 ⟨rfl, h4, o4⟩) | (go_at_call 91; refine (C4.out _ _ h4).mono ?_; rintro e w5 ⟨rfl, rfl⟩))
    go_ret2
    exact ⟨rfl, b1.trans ((o2.trans o4).below (Nat.le_refl _) b1.size)⟩
  · rw [if_neg h4]
    have c1 := fun b w h => Num_any b s 0 4 w hs h
    rw [rdNum_four s h4] at c1
    dsimp only at c1
    have hl : (s.extract 4 s.size).size ≤ 140737488351232 := by rw [ByteArray.size_extract]; omega
    generalize s.extract 4 s.size = l at *
    generalize beN (s.extract 0 4).data.toList = k at *
    have C1 : Hid _ := c1
    have C2 : Hid _ := fun b w h => Left_any b l 0 w hl h
    have c3 := fun b w h => Raw_any b l 0 l.size w hl h
    rw [rdRaw_all] at c3
    dsimp only at c3
    have C3 : Hid _ := c3
    have C4 : Hid _ := fun b w h => Err_any b ⟨#[]⟩ 0 w h
    have C5 : Hid _ := fun w => Sum_I l w (by omega)
    clear c1 c3 hs h4 hl
    by_cases he : sumI l = k
    · rw [if_pos he]
      have ht : (sumI l != (k : Int)) = false := by rw [he]; simp
      clear he
      go_enter Tryz.func94, Tryz.ntmps94
      go_wp2_with (first | (go_at_call 69; refine (Read_any _ _).mono ?_; rintro e w1 ⟨rfl, h1, b1⟩) | (go_at_call 70; refine (C1.out _ _ h1).mono ?_; rintro e w2 ⟨rfl, h2, o2⟩) | (go_at_call 90; refine (C2.out _ _ h2).mono ?_; rintro e w3 ⟨rfl, rfl⟩) | (go_at_call 72; refine (C3.out _ _ h2).mono ?_; rintro e w4 ⟨rfl, h4, o4⟩) | (go_at_call 91; refine (C4.out _ _ h4).mono ?_; rintro e w5 ⟨rfl, rfl⟩) | (go_at_call 112; refine (C5.out _).mono ?_; rintro e w6 ⟨rfl, b6⟩))
      go_ret2
      have b4 := b1.trans ((o2.trans o4).below (Nat.le_refl _) b1.size)
      exact ⟨rfl, b4.trans (b6.mono b4.size)⟩
    · rw [if_neg he]
      have ht : (sumI l != (k : Int)) = true := by simpa using he
      clear he
      go_enter Tryz.func94, Tryz.ntmps94
      go_wp2_with (first | (go_at_call 69; refine (Read_any _ _).mono ?_; rintro e w1 ⟨rfl, h1, b1⟩) | (go_at_call 70; refine (C1.out _ _ h1).mono ?_; rintro e w2 ⟨rfl, h2, o2⟩) | (go_at_call 90; refine (C2.out _ _ h2).mono ?_; rintro e w3 ⟨rfl, rfl⟩) | (go_at_call 72; refine (C3.out _ _ h2).mono ?_; rintro e w4 ⟨rfl, h4, o4⟩) | (go_at_call 91; refine (C4.out _ _ h4).mono ?_; rintro e w5 ⟨rfl, rfl⟩) | (go_at_call 112; refine (C5.out _).mono ?_; rintro e w6 ⟨rfl, b6⟩))
      go_ret2
      have b4 := b1.trans ((o2.trans o4).below (Nat.le_refl _) b1.size)
      exact ⟨rfl, b4.trans (b6.mono b4.size)⟩

theorem open_seal (s : ByteArray) : openV (beS (sumI s).toNat 4 ++ s) = (s, 0) := by
  have hz := beS_size (sumI s).toNat 4
  have h0 := sumI_nonneg s
  have h1 := sumI_lt s
  have e1 := extract_left (beS (sumI s).toNat 4) s
  have e2 := extract_right (beS (sumI s).toNat 4) s
  have e3 : (beS (sumI s).toNat 4).data.toList = be (sumI s).toNat 4 := by simp [beS]
  have e4 := beN_be 4 (sumI s).toNat (by omega)
  rw [hz] at e1 e2
  unfold openV
  rw [if_neg (by rw [ByteArray.size_append, hz]; omega), e1, e2, e3, e4, if_pos (by omega)]
end Go.Proofs.YtgodjnbbocnckaaGreat.Sm

namespace Go.Proofs.YtgodjnbbocnckaaGreat
open Go.RowKit
set_option linter.unusedVariables false
set_option linter.unusedSimpArgs false
set_option maxRecDepth 100000

/-- A reader in block b. -/
structure RdS (w : World) (b : Nat) (q : Lf) : Prop where
  rd : Pk.isRd w b q.1 q.2
  sz : q.1.size ≤ 140737488351232
section
variable {w w' : World} {b c : Nat} {q : Lf}
theorem RdS.lt (h : RdS w b q) : b < w.heap.size := h.rd.lt
theorem RdS.below (h : RdS w b q) (hb : Below w.heap.size w w') : RdS w' b q := ⟨h.rd.below hb, h.sz⟩
theorem RdS.off (h : RdS w b q) (hb : Pk.Off c w w') (hn : b ≠ c) : RdS w' b q := ⟨h.rd.off hb hn, h.sz⟩
theorem RdS.num (h : RdS w b q) (k : Int) : Calls Tryz.prog 70 #[.pointer (some ⟨b, 0, none⟩), .int .i64 k] w fun r w' => r = .returned (.int .i64 (nN q k)) ∧ RdS w' b (sN q k) ∧ Pk.Off b w w' :=
  (Pk.Num_any b q.1 q.2 k w h.sz h.rd).mono fun e w' ⟨he, h1, o1⟩ => ⟨he, ⟨h1, Nat.le_trans (sN_size q k) h.sz⟩, o1⟩
theorem RdS.text (h : RdS w b q) (m : Int) : Calls Tryz.prog 143 #[.pointer (some ⟨b, 0, none⟩), .int .i64 m] w fun r w' => r = .returned (.string (tT q m)) ∧ RdS w' b (sT q m) ∧ Pk.Off b w w' :=
  (Pk.RText_any b q.1 q.2 m w h.sz h.rd).mono fun e w' ⟨he, h1, o1⟩ => ⟨he, ⟨h1, Nat.le_trans (sT_size q m) h.sz⟩, o1⟩
end
/-- Cells in a block. -/
structure Blk (w : World) (b : Nat) (C : Array Value) (t : TypeId) : Prop where
  blk : w.heap[b]? = some (.cells C t)
structure PutB (w w' : World) (b : Nat) (C : Array Value) (t : TypeId) : Prop where
  bl : Blk w' b C t
  off : Pk.Off b w w'
section
variable {w w' : World} {b c : Nat} {C : Array Value} {t : TypeId}
theorem Blk.lt (h : Blk w b C t) : b < w.heap.size := (Array.getElem?_eq_some_iff.1 h.blk).1
theorem Blk.below (h : Blk w b C t) (hb : Below w.heap.size w w') : Blk w' b C t := ⟨(hb.block b h.lt).trans h.blk⟩
theorem Blk.off (h : Blk w b C t) (hb : Pk.Off c w w') (hn : b ≠ c) : Blk w' b C t := ⟨(hb.block b h.lt hn).trans h.blk⟩
theorem Blk.cell (h : Blk w b C t) (k : Nat) : w.cell? ⟨b, k, none⟩ = C[k]? := Joins.cell_of_block h.blk k
theorem wpList_bput {k : Nat} {v : Value} {ops : Array Oper} {rest : List Oper} {o : Oper} {a : Act} {Q : Exit → Act → World → Prop} (w : World) (hg : o.guard = none) (ty : TypeId) (x y : Operand) (hop : o.op = Op.store ty x y)
    (hx : a.eval x = .pointer (some ⟨b, k, none⟩)) (hy : a.eval y = v) (hs : Blk w b C t) (hk : k < C.size) (h1 : v.oneCell' = true) (hi : (Tryz.prog.info? ty).map (·.size) = some 1)
    (h : ∀ w', PutB w w' b (C.setIfInBounds k v) t → wpList Tryz.prog ops Q rest (a.put o.dst undef) w') : wpList Tryz.prog ops Q (o :: rest) a w := by
  have hc : ∃ u, w.cell? ⟨b, k, none⟩ = some u := by
    rw [hs.cell k]
    exact ⟨_, Array.getElem?_eq_getElem hk⟩
  obtain ⟨u, hu⟩ := hc
  have hf : w.frozen? ⟨b, k, none⟩ = false := Joins.unfrozen_of_block hs.blk k
  refine wpList_plain hg fun K' hK' => ?_
  unfold Oper.wp
  have hrun : (Instr.storeAt ty (.pointer (some ⟨b, k, none⟩)) v).run Tryz.prog w = .ok () (w.setCell ⟨b, k, none⟩ v) := by
    have hcs : v.cells = #[v] := by cases v <;> first | rfl | cases h1
    have g1 : ∀ j, j < [v].length → (w.cell? ⟨b, k + 0 + j, none⟩).isSome = true := by
      intro j hj
      obtain rfl : j = 0 := by simpa using hj
      simp [hu]
    have g2 : ∀ j, j < [v].length → w.frozen? ⟨b, k + 0 + j, none⟩ = false := by
      intro j hj
      obtain rfl : j = 0 := by simpa using hj
      simpa using hf
    have := run_storeCells_cells (P := Tryz.prog) b k [v] 0 w g1 g2 (fun x hx => by simp at hx; subst hx; exact h1)
    cases hq : Tryz.prog.info? ty with
    | none => simp [hq] at hi
    | some i =>
      have hs : i.size = 1 := by simpa [hq] using hi
      simp only [Nat.add_zero] at this
      simp [Instr.storeAt, Instr.sureAddr, storeVar, sizeOf, typeInfo, hq, hcs, hs, this, World.setCells]
  simp [execOp, hop, hx, hy, hrun, Result.andThen]
  exact hK' _ _ (h _ ⟨⟨Joins.block_setCell hs.blk _⟩, (Pk.Off.refl _ _).setCell _ _⟩)
end
/-- All blocks but b and c are as they were. -/
structure Off2 (b c : Nat) (w w' : World) : Prop where
  os : w'.os = w.os
  tape : w'.tape = w.tape
  output : w'.output = w.output
  size : w.heap.size ≤ w'.heap.size
  block : ∀ k, k < w.heap.size → k ≠ b → k ≠ c → w'.heap[k]? = w.heap[k]?
section
variable {w w1 w2 : World} {b c d : Nat}
theorem Off2.refl (b c : Nat) (w : World) : Off2 b c w w := ⟨rfl, rfl, rfl, Nat.le_refl _, fun _ _ _ _ => rfl⟩
theorem Off2.left (h : Off2 b c w w1) (o : Pk.Off b w1 w2) : Off2 b c w w2 := ⟨o.os.trans h.os, o.tape.trans h.tape, o.output.trans h.output, Nat.le_trans h.size o.size, fun k hk hb hc => (o.block k (Nat.lt_of_lt_of_le hk h.size) hb).trans (h.block k hk hb hc)⟩
theorem Off2.right (h : Off2 b c w w1) (o : Pk.Off c w1 w2) : Off2 b c w w2 := ⟨o.os.trans h.os, o.tape.trans h.tape, o.output.trans h.output, Nat.le_trans h.size o.size, fun k hk hb hc => (o.block k (Nat.lt_of_lt_of_le hk h.size) hc).trans (h.block k hk hb hc)⟩
theorem Off2.below (h : Off2 b c w w1) (o : Below w1.heap.size w1 w2) : Off2 b c w w2 := ⟨o.os.trans h.os, o.tape.trans h.tape, o.output.trans h.output, Nat.le_trans h.size o.size, fun k hk hb hc => (o.block k (Nat.lt_of_lt_of_le hk h.size)).trans (h.block k hk hb hc)⟩
theorem Off2.trans (h : Off2 b c w w1) (o : Off2 b c w1 w2) : Off2 b c w w2 := ⟨o.os.trans h.os, o.tape.trans h.tape, o.output.trans h.output, Nat.le_trans h.size o.size, fun k hk hb hc => (o.block k (Nat.lt_of_lt_of_le hk h.size) hb hc).trans (h.block k hk hb hc)⟩
theorem Off2.bel {B : Nat} (h : Off2 b c w w1) (hb : B ≤ b) (hc : B ≤ c) (hB : B ≤ w.heap.size) : Below B w w1 := ⟨h.os, h.tape, h.output, h.size, fun k hk => h.block k (by omega) (by omega) (by omega)⟩
theorem Off2.one (h : Off2 b c w w1) (hc : w.heap.size ≤ c) : Pk.Off b w w1 := ⟨h.os, h.tape, h.output, h.size, fun k hk hb => h.block k hk hb (by omega)⟩
end
/-- The reader, the places and the row of pointers while they are read. -/
structure RpS (w wx : World) (b g b0 : Nat) (G C : Array Value) (t : TypeId) (q : Lf) : Prop where
  rd : RdS wx b q
  gp : Blk wx g G 166
  bl : Blk wx b0 C t
  off : Off2 b b0 w wx
  n1 : b ≠ g
  n2 : b ≠ b0
  n3 : g ≠ b0
section
variable {w wx wq : World} {b g b0 : Nat} {G C : Array Value} {t : TypeId} {q : Lf}
theorem RpS.num (h : RpS w wx b g b0 G C t q) (k : Int) : Calls Tryz.prog 70 #[.pointer (some ⟨b, 0, none⟩), .int .i64 k] wx fun r w' => r = .returned (.int .i64 (nN q k)) ∧ RpS w w' b g b0 G C t (sN q k) :=
  (h.rd.num k).mono fun e w' ⟨he, h1, o1⟩ => ⟨he, ⟨h1, h.gp.off o1 (fun e => h.n1 e.symm), h.bl.off o1 (fun e => h.n2 e.symm), h.off.left o1, h.n1, h.n2, h.n3⟩⟩
theorem RpS.put {C' : Array Value} (h : RpS w wx b g b0 G C t q) (P : PutB wx wq b0 C' t) : RpS w wq b g b0 G C' t q :=
  ⟨h.rd.off P.off h.n2, h.gp.off P.off h.n3, P.bl, h.off.right P.off, h.n1, h.n2, h.n3⟩
end
set_option maxHeartbeats 1000000 in
theorem readPlaces_2 {w : World} {b g b0 k0 k1 : Nat} {C : Array Value} {t : TypeId} {q : Lf} (H : RpS w w b g b0 #[.pointer (some ⟨b0, k0, none⟩), .pointer (some ⟨b0, k1, none⟩)] C t q) (h0 : k0 < C.size) (h1 : k1 < C.size) :
    Calls Tryz.prog 114 #[.pointer (some ⟨b, 0, none⟩), .slice (some ⟨g, 0, none⟩) 2 2] w fun e w' => e = .returned (.tuple #[]) ∧ RdS w' b (sN (sN q 6) 6) ∧ Blk w' b0 ((C.setIfInBounds k0 (.int .i64 (nN q 6))).setIfInBounds k1 (.int .i64 (nN (sN q 6) 6))) t ∧ Off2 b b0 w w' := by
  have h1' : ∀ v, k1 < (C.setIfInBounds k0 v).size := fun v => by simpa using h1
  have z0 := H.gp.cell 0
  have z1 := H.gp.cell 1
  simp only [List.getElem?_toArray, List.getElem?_cons_zero, List.getElem?_cons_succ] at z0 z1
  go_enter Tryz.func114, Tryz.ntmps114
  go_wp2
  refine wp_loop_rounds 3 ?_
  rw [rounds_succ]
  go_wp2_with (first
    | (go_at_call 70; refine (H.num _).mono ?_; clear H; rintro e w1 ⟨rfl, H⟩)
    | (refine wpList_bput _ rfl 3 (.tmp 15) (.tmp 14) rfl rfl rfl H.bl h0 rfl (by kernel_rfl) ?_; intro w2 P2; have H1 := H.put P2; clear H P2; have H := H1; clear H1; have z1 := H.gp.cell 1; simp only [List.getElem?_toArray, List.getElem?_cons_zero, List.getElem?_cons_succ] at z1))
  rw [rounds_succ]
  go_wp2_with (first
    | (go_at_call 70; refine (H.num _).mono ?_; clear H; rintro e w1 ⟨rfl, H⟩)
    | (refine wpList_bput _ rfl 3 (.tmp 15) (.tmp 14) rfl rfl rfl H.bl (h1' _) rfl (by kernel_rfl) ?_; intro w2 P2; have H1 := H.put P2; clear H P2; have H := H1; clear H1))
  rw [rounds_succ]
  go_wp2
  go_end0
  exact ⟨rfl, H.rd, H.bl, H.off⟩
set_option maxHeartbeats 1000000 in
theorem readPlaces_3 {w : World} {b g b0 k0 k1 k2 : Nat} {C : Array Value} {t : TypeId} {q : Lf} (H : RpS w w b g b0 #[.pointer (some ⟨b0, k0, none⟩), .pointer (some ⟨b0, k1, none⟩), .pointer (some ⟨b0, k2, none⟩)] C t q) (h0 : k0 < C.size) (h1 : k1 < C.size) (h2 : k2 < C.size) :
    Calls Tryz.prog 114 #[.pointer (some ⟨b, 0, none⟩), .slice (some ⟨g, 0, none⟩) 3 3] w fun e w' => e = .returned (.tuple #[]) ∧ RdS w' b (sN (sN (sN q 6) 6) 6) ∧ Blk w' b0 (((C.setIfInBounds k0 (.int .i64 (nN q 6))).setIfInBounds k1 (.int .i64 (nN (sN q 6) 6))).setIfInBounds k2 (.int .i64 (nN (sN (sN q 6) 6) 6))) t ∧ Off2 b b0 w w' := by
  have h1' : ∀ v, k1 < (C.setIfInBounds k0 v).size := fun v => by simpa using h1
  have h2' : ∀ v u, k2 < ((C.setIfInBounds k0 v).setIfInBounds k1 u).size := fun v u => by simpa using h2
  have z0 := H.gp.cell 0
  simp only [List.getElem?_toArray, List.getElem?_cons_zero, List.getElem?_cons_succ] at z0
  go_enter Tryz.func114, Tryz.ntmps114
  go_wp2
  refine wp_loop_rounds 4 ?_
  rw [rounds_succ]
  go_wp2_with (first
    | (go_at_call 70; refine (H.num _).mono ?_; clear H; rintro e w1 ⟨rfl, H⟩)
    | (refine wpList_bput _ rfl 3 (.tmp 15) (.tmp 14) rfl rfl rfl H.bl h0 rfl (by kernel_rfl) ?_; intro w2 P2; have H1 := H.put P2; clear H P2; have H := H1; clear H1; have z1 := H.gp.cell 1; simp only [List.getElem?_toArray, List.getElem?_cons_zero, List.getElem?_cons_succ] at z1))
  rw [rounds_succ]
  go_wp2_with (first
    | (go_at_call 70; refine (H.num _).mono ?_; clear H; rintro e w1 ⟨rfl, H⟩)
    | (refine wpList_bput _ rfl 3 (.tmp 15) (.tmp 14) rfl rfl rfl H.bl (h1' _) rfl (by kernel_rfl) ?_; intro w2 P2; have H1 := H.put P2; clear H P2; have H := H1; clear H1; have z2 := H.gp.cell 2; simp only [List.getElem?_toArray, List.getElem?_cons_zero, List.getElem?_cons_succ] at z2))
  rw [rounds_succ]
  go_wp2_with (first
    | (go_at_call 70; refine (H.num _).mono ?_; clear H; rintro e w1 ⟨rfl, H⟩)
    | (refine wpList_bput _ rfl 3 (.tmp 15) (.tmp 14) rfl rfl rfl H.bl (h2' _ _) rfl (by kernel_rfl) ?_; intro w2 P2; have H1 := H.put P2; clear H P2; have H := H1; clear H1))
  rw [rounds_succ]
  go_wp2
  go_end0
  exact ⟨rfl, H.rd, H.bl, H.off⟩
end Go.Proofs.YtgodjnbbocnckaaGreat

namespace Go.Proofs.YtgodjnbbocnckaaGreat
open Go.RowKit
set_option linter.unusedVariables false
set_option linter.unusedSimpArgs false
set_option maxRecDepth 100000

/-- A reader in block b beside a record in block b0. -/
structure RcS (w wx : World) (b b0 : Nat) (s : Sc) (I T : Value) (q : Lf) : Prop where
  rd : RdS wx b q
  rc : RcAt wx b0 s I T
  off : Off2 b b0 w wx
  ne : b ≠ b0
section
variable {w wx wq : World} {b b0 : Nat} {s s' : Sc} {I T I' T' : Value} {q : Lf}
theorem RcS.num (h : RcS w wx b b0 s I T q) (k : Int) : Calls Tryz.prog 70 #[.pointer (some ⟨b, 0, none⟩), .int .i64 k] wx fun r w' => r = .returned (.int .i64 (nN q k)) ∧ RcS w w' b b0 s I T (sN q k) :=
  (h.rd.num k).mono fun e w' ⟨he, h1, o1⟩ => ⟨he, ⟨h1, h.rc.off o1 (fun e => h.ne e.symm), h.off.left o1, h.ne⟩⟩
theorem RcS.text (h : RcS w wx b b0 s I T q) (m : Int) : Calls Tryz.prog 143 #[.pointer (some ⟨b, 0, none⟩), .int .i64 m] wx fun r w' => r = .returned (.string (tT q m)) ∧ RcS w w' b b0 s I T (sT q m) :=
  (h.rd.text m).mono fun e w' ⟨he, h1, o1⟩ => ⟨he, ⟨h1, h.rc.off o1 (fun e => h.ne e.symm), h.off.left o1, h.ne⟩⟩
theorem RcS.put (h : RcS w wx b b0 s I T q) (P : PutR wx wq b0 s' I' T') : RcS w wq b b0 s' I' T' q := ⟨h.rd.off P.off h.ne, P.rc, h.off.right P.off, h.ne⟩
theorem RcS.below (h : RcS w wx b b0 s I T q) (hb : Below wx.heap.size wx wq) : RcS w wq b b0 s I T q := ⟨h.rd.below hb, h.rc.below hb, h.off.below hb, h.ne⟩
/-- The same, and the pointers to the values. -/
structure RvS (w wx : World) (b b0 g : Nat) (s : Sc) (I T : Value) (q : Lf) (P : Array Value) : Prop where
  r : RcS w wx b b0 s I T q
  pg : Blk wx g P 195
  n1 : g ≠ b
  n2 : g ≠ b0
theorem RvS.text {g : Nat} {P : Array Value} (h : RvS w wx b b0 g s I T q P) (m : Int) : Calls Tryz.prog 143 #[.pointer (some ⟨b, 0, none⟩), .int .i64 m] wx fun r w' => r = .returned (.string (tT q m)) ∧ RvS w w' b b0 g s I T (sT q m) P :=
  (h.r.rd.text m).mono fun e w' ⟨he, h1, o1⟩ => ⟨he, ⟨⟨h1, h.r.rc.off o1 (fun e => h.r.ne e.symm), h.r.off.left o1, h.r.ne⟩, h.pg.off o1 h.n1, h.n1, h.n2⟩⟩
theorem RvS.put {g : Nat} {P : Array Value} (h : RvS w wx b b0 g s I T q P) (Q : PutR wx wq b0 s' I' T') : RvS w wq b b0 g s' I' T' q P := ⟨h.r.put Q, h.pg.off Q.off h.n2, h.n1, h.n2⟩
end
section
variable {w : World} {b b0 : Nat} {s : Sc} {I T : Value} {q : Lf}
set_option maxHeartbeats 1000000 in
theorem readChange_3 (H : RcS w w b b0 s I T q) (ha : actOf s = 3) : Calls Tryz.prog 115 #[.pointer (some ⟨b, 0, none⟩), .pointer (some ⟨b0, 0, none⟩)] w fun e w' => e = .returned (.tuple #[]) ∧ RcS w w' b b0 (rcN s q) I T (sT (rq1 q) 32) := by
  have CV : Hid (∀ wr q', RcS w wr b b0 (rc1 s q) I T q' → Calls Tryz.prog 144 #[.pointer (some ⟨b0, 0, none⟩)] wr fun e w' => ∃ g, e = .returned (.slice (some ⟨g, 0, none⟩) 1 1) ∧ RvS w w' b b0 g (rc1 s q) I T q' #[.pointer (some ⟨b0, 7, none⟩)]) := fun wr q' R => by
    refine (values_3 R.rc ha).mono ?_
    rintro e w' ⟨he, hw'⟩
    refine ⟨wr.heap.size, he, ?_⟩
    subst hw'
    refine ⟨R.below ((Below.refl _ _).alloc (Nat.le_refl _) _), ⟨(MapKept.heap_alloc wr _).1⟩, by have := R.rd.lt; omega, by have := R.rc.lt; omega⟩
  go_enter Tryz.func115, Tryz.ntmps115
  go_wp2_with (first
    | (go_at_call 70; refine (H.num _).mono ?_; clear H; rintro e w1 ⟨rfl, H⟩)
    | (refine wpList_at (Op.store 3 (.tmp 10) (.tmp 8)) rfl ?_; refine wpList_fput (s' := {s with pg := nN q 2}) (I' := I) (T' := T) _ rfl 3 (.tmp 10) (.tmp 8) rfl rfl rfl H.rc (by omega) rfl (by kernel_rfl) rfl ?_; intro w2 P2; have H1 := H.put P2; clear H P2; have H := H1; clear H1)
    | (go_at_call 143; refine (H.text _).mono ?_; clear H; rintro e w3 ⟨rfl, H⟩; rw [show sT (sN q 2) 16 = rq1 q from rfl] at H)
    | (refine wpList_at (Op.store 9 (.tmp 15) (.tmp 13)) rfl ?_; refine wpList_fput (s' := (rc1 s q)) (I' := I) (T' := T) _ rfl 9 (.tmp 15) (.tmp 13) rfl rfl rfl H.rc (by omega) rfl (by kernel_rfl) ?_ ?_; exact rc1_set s q I T; intro w2 P2; have H1 := H.put P2; clear H P2; have H := H1; clear H1)
    | (go_at_call 144; refine (CV.out _ _ H).mono ?_; clear H; rintro e w4 ⟨g, rfl, LV⟩; have g0 := LV.pg.cell 0; simp only [List.getElem?_toArray, List.getElem?_cons_zero, List.getElem?_cons_succ] at g0))
  refine wp_loop_rounds 2 ?_
  rw [rounds_succ]
  go_wp2_with (first
    | (go_at_call 143; refine (LV.text _).mono ?_; clear LV; rintro e w4 ⟨rfl, LV⟩)
    | (refine wpList_at (Op.store 9 (.tmp 26) (.tmp 25)) rfl ?_; refine wpList_fput (s' := (rcN s q)) (I' := I) (T' := T) _ rfl 9 (.tmp 26) (.tmp 25) rfl rfl rfl LV.r.rc (by omega) rfl (by kernel_rfl) ?_ ?_; exact rcN_set s q I T; intro w5 P5; have L1 := LV.put P5; clear LV P5; have LV := L1; clear L1; have g0 := LV.pg.cell 0; simp only [List.getElem?_toArray, List.getElem?_cons_zero, List.getElem?_cons_succ] at g0))
  rw [rounds_succ]
  go_wp2
  go_end0
  exact ⟨rfl, LV.r⟩
set_option maxHeartbeats 1000000 in
theorem readChange_4 (H : RcS w w b b0 s I T q) (ha : actOf s = 4) : Calls Tryz.prog 115 #[.pointer (some ⟨b, 0, none⟩), .pointer (some ⟨b0, 0, none⟩)] w fun e w' => e = .returned (.tuple #[]) ∧ RcS w w' b b0 (rcO s q) I T (sT (rq1 q) 32) := by
  have CV : Hid (∀ wr q', RcS w wr b b0 (rc1 s q) I T q' → Calls Tryz.prog 144 #[.pointer (some ⟨b0, 0, none⟩)] wr fun e w' => ∃ g, e = .returned (.slice (some ⟨g, 0, none⟩) 1 1) ∧ RvS w w' b b0 g (rc1 s q) I T q' #[.pointer (some ⟨b0, 6, none⟩)]) := fun wr q' R => by
    refine (values_4 R.rc ha).mono ?_
    rintro e w' ⟨he, hw'⟩
    refine ⟨wr.heap.size, he, ?_⟩
    subst hw'
    refine ⟨R.below ((Below.refl _ _).alloc (Nat.le_refl _) _), ⟨(MapKept.heap_alloc wr _).1⟩, by have := R.rd.lt; omega, by have := R.rc.lt; omega⟩
  go_enter Tryz.func115, Tryz.ntmps115
  go_wp2_with (first
    | (go_at_call 70; refine (H.num _).mono ?_; clear H; rintro e w1 ⟨rfl, H⟩)
    | (refine wpList_at (Op.store 3 (.tmp 10) (.tmp 8)) rfl ?_; refine wpList_fput (s' := {s with pg := nN q 2}) (I' := I) (T' := T) _ rfl 3 (.tmp 10) (.tmp 8) rfl rfl rfl H.rc (by omega) rfl (by kernel_rfl) rfl ?_; intro w2 P2; have H1 := H.put P2; clear H P2; have H := H1; clear H1)
    | (go_at_call 143; refine (H.text _).mono ?_; clear H; rintro e w3 ⟨rfl, H⟩; rw [show sT (sN q 2) 16 = rq1 q from rfl] at H)
    | (refine wpList_at (Op.store 9 (.tmp 15) (.tmp 13)) rfl ?_; refine wpList_fput (s' := (rc1 s q)) (I' := I) (T' := T) _ rfl 9 (.tmp 15) (.tmp 13) rfl rfl rfl H.rc (by omega) rfl (by kernel_rfl) ?_ ?_; exact rc1_set s q I T; intro w2 P2; have H1 := H.put P2; clear H P2; have H := H1; clear H1)
    | (go_at_call 144; refine (CV.out _ _ H).mono ?_; clear H; rintro e w4 ⟨g, rfl, LV⟩; have g0 := LV.pg.cell 0; simp only [List.getElem?_toArray, List.getElem?_cons_zero, List.getElem?_cons_succ] at g0))
  refine wp_loop_rounds 2 ?_
  rw [rounds_succ]
  go_wp2_with (first
    | (go_at_call 143; refine (LV.text _).mono ?_; clear LV; rintro e w4 ⟨rfl, LV⟩)
    | (refine wpList_at (Op.store 9 (.tmp 26) (.tmp 25)) rfl ?_; refine wpList_fput (s' := (rcO s q)) (I' := I) (T' := T) _ rfl 9 (.tmp 26) (.tmp 25) rfl rfl rfl LV.r.rc (by omega) rfl (by kernel_rfl) ?_ ?_; exact rcO_set s q I T; intro w5 P5; have L1 := LV.put P5; clear LV P5; have LV := L1; clear L1; have g0 := LV.pg.cell 0; simp only [List.getElem?_toArray, List.getElem?_cons_zero, List.getElem?_cons_succ] at g0))
  rw [rounds_succ]
  go_wp2
  go_end0
  exact ⟨rfl, LV.r⟩
set_option maxHeartbeats 1000000 in
theorem readChange_o (H : RcS w w b b0 s I T q) (h3 : actOf s ≠ 3) (h4 : actOf s ≠ 4) : Calls Tryz.prog 115 #[.pointer (some ⟨b, 0, none⟩), .pointer (some ⟨b0, 0, none⟩)] w fun e w' => e = .returned (.tuple #[]) ∧ RcS w w' b b0 (rcB s q) I T (sT (sT (rq1 q) 32) 32) := by
  have CV : Hid (∀ wr q', RcS w wr b b0 (rc1 s q) I T q' → Calls Tryz.prog 144 #[.pointer (some ⟨b0, 0, none⟩)] wr fun e w' => ∃ g, e = .returned (.slice (some ⟨g, 0, none⟩) 2 2) ∧ RvS w w' b b0 g (rc1 s q) I T q' #[.pointer (some ⟨b0, 6, none⟩), .pointer (some ⟨b0, 7, none⟩)]) := fun wr q' R => by
    refine (values_o R.rc h3 h4).mono ?_
    rintro e w' ⟨he, hw'⟩
    refine ⟨wr.heap.size, he, ?_⟩
    subst hw'
    refine ⟨R.below (((Below.refl _ _).drew).alloc (Nat.le_refl _) _), ⟨(MapKept.heap_alloc wr.drew _).1⟩, by have := R.rd.lt; omega, by have := R.rc.lt; omega⟩
  go_enter Tryz.func115, Tryz.ntmps115
  go_wp2_with (first
    | (go_at_call 70; refine (H.num _).mono ?_; clear H; rintro e w1 ⟨rfl, H⟩)
    | (refine wpList_at (Op.store 3 (.tmp 10) (.tmp 8)) rfl ?_; refine wpList_fput (s' := {s with pg := nN q 2}) (I' := I) (T' := T) _ rfl 3 (.tmp 10) (.tmp 8) rfl rfl rfl H.rc (by omega) rfl (by kernel_rfl) rfl ?_; intro w2 P2; have H1 := H.put P2; clear H P2; have H := H1; clear H1)
    | (go_at_call 143; refine (H.text _).mono ?_; clear H; rintro e w3 ⟨rfl, H⟩; rw [show sT (sN q 2) 16 = rq1 q from rfl] at H)
    | (refine wpList_at (Op.store 9 (.tmp 15) (.tmp 13)) rfl ?_; refine wpList_fput (s' := (rc1 s q)) (I' := I) (T' := T) _ rfl 9 (.tmp 15) (.tmp 13) rfl rfl rfl H.rc (by omega) rfl (by kernel_rfl) ?_ ?_; exact rc1_set s q I T; intro w2 P2; have H1 := H.put P2; clear H P2; have H := H1; clear H1)
    | (go_at_call 144; refine (CV.out _ _ H).mono ?_; clear H; rintro e w4 ⟨g, rfl, LV⟩; have g0 := LV.pg.cell 0; simp only [List.getElem?_toArray, List.getElem?_cons_zero, List.getElem?_cons_succ] at g0; have g1 := LV.pg.cell 1; simp only [List.getElem?_toArray, List.getElem?_cons_zero, List.getElem?_cons_succ] at g1))
  refine wp_loop_rounds 3 ?_
  rw [rounds_succ]
  go_wp2_with (first
    | (go_at_call 143; refine (LV.text _).mono ?_; clear LV; rintro e w4 ⟨rfl, LV⟩)
    | (refine wpList_at (Op.store 9 (.tmp 26) (.tmp 25)) rfl ?_; refine wpList_fput (s' := (rcO s q)) (I' := I) (T' := T) _ rfl 9 (.tmp 26) (.tmp 25) rfl rfl rfl LV.r.rc (by omega) rfl (by kernel_rfl) ?_ ?_; exact rcO_set s q I T; intro w5 P5; have L1 := LV.put P5; clear LV P5; have LV := L1; clear L1; have g0 := LV.pg.cell 0; simp only [List.getElem?_toArray, List.getElem?_cons_zero, List.getElem?_cons_succ] at g0; have g1 := LV.pg.cell 1; simp only [List.getElem?_toArray, List.getElem?_cons_zero, List.getElem?_cons_succ] at g1))
  rw [rounds_succ]
  go_wp2_with (first
    | (go_at_call 143; refine (LV.text _).mono ?_; clear LV; rintro e w4 ⟨rfl, LV⟩)
    | (refine wpList_at (Op.store 9 (.tmp 26) (.tmp 25)) rfl ?_; refine wpList_fput (s' := (rcB s q)) (I' := I) (T' := T) _ rfl 9 (.tmp 26) (.tmp 25) rfl rfl rfl LV.r.rc (by omega) rfl (by kernel_rfl) ?_ ?_; exact rcB_set s q I T; intro w5 P5; have L1 := LV.put P5; clear LV P5; have LV := L1; clear L1; have g0 := LV.pg.cell 0; simp only [List.getElem?_toArray, List.getElem?_cons_zero, List.getElem?_cons_succ] at g0; have g1 := LV.pg.cell 1; simp only [List.getElem?_toArray, List.getElem?_cons_zero, List.getElem?_cons_succ] at g1))
  rw [rounds_succ]
  go_wp2
  go_end0
  exact ⟨rfl, LV.r⟩
theorem readChange_any (H : RcS w w b b0 s I T q) (act : Int) (ha : act = actOf s) : Calls Tryz.prog 115 #[.pointer (some ⟨b, 0, none⟩), .pointer (some ⟨b0, 0, none⟩)] w fun e w' => e = .returned (.tuple #[]) ∧ RcS w w' b b0 (rdChg act s q).1 I T (rdChg act s q).2 := by
  unfold rdChg
  rw [ha]
  by_cases h3 : actOf s = 3
  · rw [if_pos h3]
    exact readChange_3 H h3
  · by_cases h4 : actOf s = 4
    · rw [if_neg h3, if_pos h4]
      exact readChange_4 H h4
    · rw [if_neg h3, if_neg h4]
      exact readChange_o H h3 h4
end
theorem Own.off {el : TypeId} {B b : Nat} {w w' : World} {a : Option Addr} {cap : Nat} {xs : List P2} (h : Own el B w a cap xs) (o : Pk.Off b w w') (hb : b < B) : Own el B w' a cap xs :=
  ⟨h.row.kept (fun k hk => o.block k (h.row.lt k hk) (fun e => by have := h.fresh k hk; omega)), h.fresh⟩
theorem Pk.Off.bel {b : Nat} {w w1 w2 : World} (h : Pk.Off b w w1) (hb : Below w.heap.size w1 w2) : Pk.Off b w w2 := ⟨hb.os.trans h.os, hb.tape.trans h.tape, hb.output.trans h.output, Nat.le_trans h.size hb.size, fun k hk hkb => (hb.block k hk).trans (h.block k hk hkb)⟩
theorem RdS.bel {w w' : World} {b B : Nat} {q : Lf} (h : RdS w b q) (hb : Below B w w') (hB : b < B) : RdS w' b q := ⟨(hb.block b hB).trans h.rd, h.sz⟩
theorem cs_one (w : World) (p : P2) (t : TypeId) : Cs (w.alloc (.cells #[p.1, p.2] t)) (some ⟨w.heap.size, 0, none⟩) [p] := ⟨fun i hi => by
  have h0 : i = 0 := by simpa using hi
  subst h0
  exact ⟨w.heap.size, 0, rfl, by simp, Joins.cell_of_block (MapKept.heap_alloc w _).1 0, Joins.cell_of_block (MapKept.heap_alloc w _).1 1⟩⟩
set_option maxHeartbeats 1000000 in
theorem readImages_any {w : World} {b : Nat} {q : Lf} (h : RdS w b q) : Calls Tryz.prog 113 #[.pointer (some ⟨b, 0, none⟩)] w fun e w' => (∃ v, e = .returned v ∧ Fr w' v (encI (rdImL (sN q 1) (nN q 1).toNat)) w.heap.size) ∧ RdS w' b (rdImS (sN q 1) (nN q 1).toNat) ∧ Pk.Off b w w' := by
  obtain ⟨n, hn⟩ : ∃ n : Nat, nN q 1 = n := ⟨(nN q 1).toNat, by have := nN_nonneg q 1; omega⟩
  have hn2 : n ≤ 255 := by have := nN_one q; omega
  have hbl := h.lt
  have C0 : Hid (Calls Tryz.prog 70 #[.pointer (some ⟨b, 0, none⟩), .int .i64 1] w fun r w' => r = .returned (.int .i64 (n : Int)) ∧ RdS w' b (sN q 1) ∧ Pk.Off b w w') := by rw [← hn]; exact h.num 1
  have HN : Hid ((nN q 1).toNat = n) := (by rw [hn]; rfl : (nN q 1).toNat = n)
  rw [HN.out]
  generalize sN q 1 = q1 at *
  clear hn h HN
  go_enter Tryz.func113, Tryz.ntmps113
  go_wp2_with (go_at_call 70; refine C0.out.mono ?_; clear C0; rintro e w1 ⟨rfl, h1, o1⟩)
  go_loopw [3, 8] (fun pv ix wr => ∃ (j : Nat) (a : Option Addr) (c : Nat), j ≤ n ∧ ix = .int .i64 (j : Int) ∧ pv = .slice a j c ∧ Own 191 w.heap.size wr a c (encI (rdImL q1 j)) ∧ RdS wr b (rdImS q1 j) ∧ Pk.Off b w wr) (fun _ ix _ => n - (intOf ix).toNat)
  case atStart => exact ⟨0, none, 0, Nat.zero_le _, rfl, rfl, Own.nil _ _ _, h1, o1⟩
  case round =>
    clear h1 o1
    obtain ⟨j, a, c, hj, rfl, rfl, hO, hR, ho⟩ := hrel
    by_cases hlt : j < n
    · have hi2 : (j : Int) < (n : Int) := by omega
      have hln : j = (encI (rdImL q1 j)).length := by rw [encI_length, rdImL_length]
      have HS : Hid (encI (rdImL q1 (j + 1)) = encI (rdImL q1 j) ++ [(.int .i64 (rdImF q1 j).1, .string (rdImF q1 j).2)]) := (by rw [rdImL_succ, encI_append]; rfl : encI (rdImL q1 (j + 1)) = encI (rdImL q1 j) ++ [(.int .i64 (rdImF q1 j).1, .string (rdImF q1 j).2)])
      have HQ : Hid (rdImS q1 (j + 1) = sT (sN (rdImS q1 j) 2) 224) := (rfl : rdImS q1 (j + 1) = sT (sN (rdImS q1 j) 2) 224)
      have HF : Hid (rdImF q1 j = (nN (rdImS q1 j) 2, tT (sN (rdImS q1 j) 2) 224)) := (rfl : rdImF q1 j = (nN (rdImS q1 j) 2, tT (sN (rdImS q1 j) 2) 224))
      have HL : Hid (j = (encI (rdImL q1 j)).length) := hln
      clear hln
      generalize encI (rdImL q1 j) = xs at *
      generalize rdImS q1 j = qj at *
      have hzz := ho.size
      have hBz : w.heap.size ≤ wr.heap.size := hzz
      go_wp2_with (first
        | (go_at_call 70; refine (hR.num _).mono ?_; clear hR; rintro e w2 ⟨rfl, hR2, o2⟩; have hO2 := hO.off o2 hbl; have ho2 := ho.trans o2; clear hO ho o2)
        | (go_at_call 143; refine (hR2.text _).mono ?_; clear hR2; rintro e w3 ⟨rfl, hR3, o3⟩; have hO3 := hO2.off o3 hbl; have ho3 := ho2.trans o3; clear hO2 ho2 o3; have BA : Below w3.heap.size w3 (w3.alloc (.cells #[.int .i64 (nN qj 2), .string (tT (sN qj 2) 224)] 191)) := (Below.refl _ _).alloc (Nat.le_refl _) _; have hO4 := hO3.below BA; have hz4 : w.heap.size ≤ (w3.alloc (.cells #[.int .i64 (nN qj 2), .string (tT (sN qj 2) 224)] 191)).heap.size := Nat.le_trans ho3.size BA.size)
        | (refine wpList_append_own' two_im (B := w.heap.size) rfl (.tmp 14) (.tmp 18) rfl rfl HL.out hO4 hz4 rfl (m := 1) (news := [(.int .i64 (nN qj 2), .string (tT (sN qj 2) 224))]) rfl (fun e => by cases e) (cs_one w3 (.int .i64 (nN qj 2), .string (tT (sN qj 2) 224)) 191) (fun p hp => by simp at hp; subst hp; exact ⟨rfl, rfl⟩) (by omega) ?_; intro a5 c5 w5 hO5 B5))
      go_roundw
      case rel =>
        refine ⟨j + 1, a5, c5, by omega, by go_num, rfl, ?_, ?_, ?_⟩
        · rw [HS.out, HF.out]; exact hO5
        · rw [HQ.out]; exact (hR3.below BA).bel B5 hbl
        · exact (ho3.trans (Pk.Off.of_below BA)).bel B5
      case measure => simp [intOf]; omega
    · have hjn : j = n := by omega
      subst hjn
      have hi2 : ¬ (j : Int) < (j : Int) := by omega
      go_wp2
      go_ret
      refine ⟨⟨_, rfl, ?_⟩, hR, ho⟩
      have := hO.fr
      rw [encI_length, rdImL_length] at this
      exact this
set_option maxHeartbeats 1000000 in
theorem readTable_any {w : World} {b : Nat} {q : Lf} (h : RdS w b q) : Calls Tryz.prog 116 #[.pointer (some ⟨b, 0, none⟩)] w fun e w' => (∃ v, e = .returned v ∧ Fr w' v (encT (rdTbL (sN q 1) (nN q 1).toNat)) w.heap.size) ∧ RdS w' b (rdTbS (sN q 1) (nN q 1).toNat) ∧ Pk.Off b w w' := by
  obtain ⟨n, hn⟩ : ∃ n : Nat, nN q 1 = n := ⟨(nN q 1).toNat, by have := nN_nonneg q 1; omega⟩
  have hn2 : n ≤ 255 := by have := nN_one q; omega
  have hbl := h.lt
  have C0 : Hid (Calls Tryz.prog 70 #[.pointer (some ⟨b, 0, none⟩), .int .i64 1] w fun r w' => r = .returned (.int .i64 (n : Int)) ∧ RdS w' b (sN q 1) ∧ Pk.Off b w w') := by rw [← hn]; exact h.num 1
  have HN : Hid ((nN q 1).toNat = n) := (by rw [hn]; rfl : (nN q 1).toNat = n)
  rw [HN.out]
  generalize sN q 1 = q1 at *
  clear hn h HN
  go_enter Tryz.func116, Tryz.ntmps116
  go_wp2_with (go_at_call 70; refine C0.out.mono ?_; clear C0; rintro e w1 ⟨rfl, h1, o1⟩)
  go_loopw [3, 7] (fun pv ix wr => ∃ (j : Nat) (a : Option Addr) (c : Nat), j ≤ n ∧ ix = .int .i64 (j : Int) ∧ pv = .slice a j c ∧ Own 197 w.heap.size wr a c (encT (rdTbL q1 j)) ∧ RdS wr b (rdTbS q1 j) ∧ Pk.Off b w wr) (fun _ ix _ => n - (intOf ix).toNat)
  case atStart => exact ⟨0, none, 0, Nat.zero_le _, rfl, rfl, Own.nil _ _ _, h1, o1⟩
  case round =>
    clear h1 o1
    obtain ⟨j, a, c, hj, rfl, rfl, hO, hR, ho⟩ := hrel
    by_cases hlt : j < n
    · have hi2 : (j : Int) < (n : Int) := by omega
      have hln : j = (encT (rdTbL q1 j)).length := by rw [encT_length, rdTbL_length]
      have HS : Hid (encT (rdTbL q1 (j + 1)) = encT (rdTbL q1 j) ++ [(.int .i64 (rdTbF q1 j).1, .int .i64 (rdTbF q1 j).2)]) := (by rw [rdTbL_succ, encT_append]; rfl : encT (rdTbL q1 (j + 1)) = encT (rdTbL q1 j) ++ [(.int .i64 (rdTbF q1 j).1, .int .i64 (rdTbF q1 j).2)])
      have HQ : Hid (rdTbS q1 (j + 1) = sN (sN (rdTbS q1 j) 6) 6) := (rfl : rdTbS q1 (j + 1) = sN (sN (rdTbS q1 j) 6) 6)
      have HF : Hid (rdTbF q1 j = (nN (rdTbS q1 j) 6, nN (sN (rdTbS q1 j) 6) 6)) := (rfl : rdTbF q1 j = (nN (rdTbS q1 j) 6, nN (sN (rdTbS q1 j) 6) 6))
      have HL : Hid (j = (encT (rdTbL q1 j)).length) := hln
      clear hln
      generalize encT (rdTbL q1 j) = xs at *
      generalize rdTbS q1 j = qj at *
      have hBz := ho.size
      have hbr := hR.lt
      have CP : Hid (∀ w2, w2 = (wr.alloc (.cells #[.int .i64 0, .int .i64 0] 197)).alloc (.cells #[.pointer (some ⟨wr.heap.size, 0, none⟩), .pointer (some ⟨wr.heap.size, 1, none⟩)] 166) → Calls Tryz.prog 114 #[.pointer (some ⟨b, 0, none⟩), .slice (some ⟨wr.heap.size + 1, 0, none⟩) 2 2] w2 fun e w' => e = .returned (.tuple #[]) ∧ RdS w' b (sN (sN qj 6) 6) ∧ Blk w' wr.heap.size #[.int .i64 (nN qj 6), .int .i64 (nN (sN qj 6) 6)] 197 ∧ Pk.Off b wr w') := fun w2 h2 => by
        have b1 : Below wr.heap.size wr (wr.alloc (.cells #[.int .i64 0, .int .i64 0] 197)) := (Below.refl _ _).alloc (Nat.le_refl _) _
        have b2 : Below (wr.alloc (.cells #[.int .i64 0, .int .i64 0] 197)).heap.size (wr.alloc (.cells #[.int .i64 0, .int .i64 0] 197)) w2 := by subst h2; exact (Below.refl _ _).alloc (Nat.le_refl _) _
        have hz : (wr.alloc (.cells #[.int .i64 0, .int .i64 0] 197)).heap.size = wr.heap.size + 1 := by simp
        have bl : Blk w2 wr.heap.size #[.int .i64 0, .int .i64 0] 197 := (Blk.mk (MapKept.heap_alloc wr _).1).below b2
        have gp : Blk w2 (wr.heap.size + 1) #[.pointer (some ⟨wr.heap.size, 0, none⟩), .pointer (some ⟨wr.heap.size, 1, none⟩)] 166 := by
          have := (MapKept.heap_alloc (wr.alloc (.cells #[.int .i64 0, .int .i64 0] 197)) (.cells #[.pointer (some ⟨wr.heap.size, 0, none⟩), .pointer (some ⟨wr.heap.size, 1, none⟩)] 166)).1
          rw [hz] at this
          subst h2
          exact ⟨this⟩
        refine (readPlaces_2 (k0 := 0) (k1 := 1) (C := #[.int .i64 0, .int .i64 0]) ⟨(hR.below b1).below b2, gp, bl, Off2.refl _ _ _, by omega, by omega, by omega⟩ (by simp) (by simp)).mono ?_
        rintro e w3 ⟨he, h3, g3, o3⟩
        have bb := thn b1 b2
        have z2 := bb.size
        refine ⟨he, h3, g3, ⟨o3.os.trans bb.os, o3.tape.trans bb.tape, o3.output.trans bb.output, Nat.le_trans z2 o3.size, fun k hk hkb => (o3.block k (by omega) hkb (by omega)).trans (bb.block k hk)⟩⟩
      go_wp2_with (first
        | (go_at_call 114; refine (CP.out _ rfl).mono ?_; clear CP; rintro e w3 ⟨rfl, hR3, bl3, o3⟩; have hO3 := hO.off o3 hbl; have ho3 := ho.trans o3; clear hO; have BA : Below w3.heap.size w3 (w3.alloc (.cells #[.int .i64 (nN qj 6), .int .i64 (nN (sN qj 6) 6)] 197)) := (Below.refl _ _).alloc (Nat.le_refl _) _; have hO4 := hO3.below BA; have hz4 : w.heap.size ≤ (w3.alloc (.cells #[.int .i64 (nN qj 6), .int .i64 (nN (sN qj 6) 6)] 197)).heap.size := Nat.le_trans ho3.size BA.size; have m0 := bl3.cell 0; have m1 := bl3.cell 1; simp only [List.getElem?_toArray, List.getElem?_cons_zero, List.getElem?_cons_succ] at m0 m1)
        | (refine wpList_append_own' two_tb (B := w.heap.size) rfl (.tmp 14) (.tmp 16) rfl rfl HL.out hO4 hz4 rfl (m := 1) (news := [(.int .i64 (nN qj 6), .int .i64 (nN (sN qj 6) 6))]) rfl (fun e => by cases e) (cs_one w3 (.int .i64 (nN qj 6), .int .i64 (nN (sN qj 6) 6)) 197) (fun p hp => by simp at hp; subst hp; exact ⟨rfl, rfl⟩) (by omega) ?_; intro a5 c5 w5 hO5 B5))
      go_roundw
      case rel =>
        refine ⟨j + 1, a5, c5, by omega, by go_num, rfl, ?_, ?_, ?_⟩
        · rw [HS.out, HF.out]; exact hO5
        · rw [HQ.out]; exact (hR3.below BA).bel B5 hbl
        · exact (ho3.trans (Pk.Off.of_below BA)).bel B5
      case measure => simp [intOf]; omega
    · have hjn : j = n := by omega
      subst hjn
      have hi2 : ¬ (j : Int) < (j : Int) := by omega
      go_wp2
      go_ret
      refine ⟨⟨_, rfl, ?_⟩, hR, ho⟩
      have := hO.fr
      rw [encT_length, rdTbL_length] at this
      exact this
end Go.Proofs.YtgodjnbbocnckaaGreat
