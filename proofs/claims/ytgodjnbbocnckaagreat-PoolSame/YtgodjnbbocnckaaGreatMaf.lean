/- The sum that goes on over a text: what More and Sum of the layer return. The law's own register over a text, bit by bit; its sum; the example; the program's Sum. The layer sum's Seal and Open, over pack's contracts. The program's read: readPlaces, readChange, readImages, readTable. The program's read: readChange, readImages, readTable. What a writer has behind the parts of a record: layPlaces, layImages, layTable, layChange. What a writer has behind a change: layChange. Why a record has no bytes: areWhole, tooLong, isFormed, refusal. -/
import Derived.Test.YtgodjnbbocnckaaGreatMae
import Derived.Lib.SmallJoins
import Derived.Lib.SlBytesRow
import Derived.Test.YtgodjnbbocnckaaGreatMac
import Derived.Deep.RegionHeld3
import Derived.Test.YtgodjnbbocnckaaGreatMad
namespace Go.Proofs.YtgodjnbbocnckaaGreat.Sm
open Go.RowKit
set_option linter.unusedVariables false
set_option linter.unusedSimpArgs false
set_option maxRecDepth 100000

theorem ofB_vI (b : UInt8) : (b.toNat : Int) = vI (ofB b) := by
  unfold vI ofB
  have := b.toNat_lt
  rw [BitVec.toNat_ofNat]
  omega
theorem ofB_mod (b : UInt8) : (b.toNat : Int) % 4294967296 = vI (ofB b) := by
  rw [← ofB_vI]
  have := b.toNat_lt
  omega
/-- One half of a byte, as the program steps. -/
theorem half_facts (c : R) : ∃ (n : Nat) (s d : R), bits .and .u32 (vI c) 15 = (n : Int) ∧ n < 16 ∧ (tab 16)[n]? = some (.int .u32 (vI d)) ∧ vI c / (16 : Int) = vI s ∧ bits .xor .u32 (vI s) (vI d) = vI (stn 4 c) := by
  have e15 : (15 : Int) = vI 15#32 := rfl
  have hlt : (c &&& 15#32).toNat < 16 := by
    rw [BitVec.toNat_and]
    have : c.toNat &&& (15#32).toNat ≤ 15 := Nat.and_le_right
    omega
  refine ⟨(c &&& 15#32).toNat, c >>> 4, stn 4 (c &&& 15#32), ?_, hlt, ?_, shr32_4 c, ?_⟩
  · rw [e15, and32]; rfl
  · rw [tab_get 16 _ hlt, if_pos hlt, BitVec.ofNat_toNat]
    simp
  · rw [xor32, ← four_steps]
theorem not32 (n : Int) : bits .xor .u32 IntKind.u32.max (n % 4294967296) = vI (BitVec.ofInt 32 n ^^^ ones) := by
  have e1 : IntKind.u32.max = vI ones := rfl
  have e2 : n % 4294967296 = vI (BitVec.ofInt 32 n) := by
    unfold vI
    rw [BitVec.toNat_ofInt]
    omega
  rw [e1, e2, xor32, BitVec.xor_comm]
theorem not32_vI (c : R) : bits .xor .u32 IntKind.u32.max (vI c) = vI (c ^^^ ones) := by
  have e1 : IntKind.u32.max = vI ones := rfl
  rw [e1, xor32, BitVec.xor_comm]
theorem take_snoc (s : ByteArray) (k : Nat) (h : k < s.size) : s.data.toList.take (k + 1) = s.data.toList.take k ++ [s[k]] := by
  rw [List.take_succ_eq_append_getElem (by simpa using h)]; rfl
theorem bytesRow_cell (w : World) (s : ByteArray) (c m : Nat) (k : Nat) (h : k < s.size) :
    (w.alloc (.cells (bytesRow s c) 5 (m, m + 1))).cell? ⟨w.heap.size, k, none⟩ = some (.int .u8 (s[k].toNat : Int)) := by
  rw [World.cell?_alloc_mark]
  have h' : k < s.data.size := h
  simp only [bytesRow]
  rw [Array.getElem?_append_left (by simpa using h')]
  rw [Array.getElem?_map, Array.getElem?_eq_getElem h']
  rfl
theorem runB_snoc (c : R) (l : List UInt8) (b : UInt8) : runB c (l ++ [b]) = stn 4 (stn 4 (runB c l ^^^ ofB b)) := by
  rw [runB_append, ← stn_add]
  rfl
theorem More_any (n : Int) (s : ByteArray) (w : World) (hs : s.size ≤ 281474976710656) :
    Calls Tryz.prog 142 #[.int .i64 n, .string s] w fun e w' => e = .returned (.int .i64 (vI (moreB (BitVec.ofInt 32 n) s.data.toList))) ∧ Below w.heap.size w w' := by
  have hcv := fun w s => run_bytes_of_string (P := Tryz.prog) w 9 94 5 s Tryz.underlying9 Tryz.underlying94 Tryz.underlying5
  obtain ⟨C, hC⟩ : ∃ C, BitVec.ofInt 32 n ^^^ ones = C := ⟨_, rfl⟩
  have h0 := not32 n
  have hm : moreB (BitVec.ofInt 32 n) s.data.toList = runB C s.data.toList ^^^ ones := by rw [moreB, hC]
  rw [hC] at h0
  rw [hm]
  clear hm hC
  go_enter Tryz.func142, Tryz.ntmps142
  go_wp2_with (go_at_call 162; refine (fourShifts_lit _).mono ?_; rintro e w1 ⟨rfl, hb1⟩)
  rw [← tab_full]
  generalize grownCap (w1.alloc (Obj.cells (tab 16) 217)) s.size 0 5 = gc
  have hrow : ∀ j (hj : j < s.size), ((w1.alloc (Obj.cells (tab 16) 217)).alloc (Obj.cells (bytesRow s gc) 5 ((bytesRow s gc).size, (bytesRow s gc).size + 1))).drew.cell? ⟨w1.heap.size + 1, j, none⟩ = some (.int .u8 (s[j].toNat : Int)) := by
    intro j hj
    have := bytesRow_cell (w1.alloc (Obj.cells (tab 16) 217)) s gc (bytesRow s gc).size j hj
    simpa [go_sem] using this
  have htab : ∀ j, ((w1.alloc (Obj.cells (tab 16) 217)).alloc (Obj.cells (bytesRow s gc) 5 ((bytesRow s gc).size, (bytesRow s gc).size + 1))).drew.cell? ⟨w1.heap.size, j, none⟩ = (tab 16)[j]? := by
    intro j
    simp [go_sem]
  have hbel : Below w.heap.size w ((w1.alloc (Obj.cells (tab 16) 217)).alloc (Obj.cells (bytesRow s gc) 5 ((bytesRow s gc).size, (bytesRow s gc).size + 1))).drew :=
    ((hb1.alloc hb1.size _).alloc (by have := hb1.size; simp; omega) _).drew
  generalize ((w1.alloc (Obj.cells (tab 16) 217)).alloc (Obj.cells (bytesRow s gc) 5 ((bytesRow s gc).size, (bytesRow s gc).size + 1))).drew = W at hrow htab hbel ⊢
  have HR : Hid _ := hrow
  have HT : Hid _ := htab
  have HB : Hid _ := hbel
  clear hrow htab hbel hcv
  go_loop [6, 16] (fun r i => ∃ j : Nat, j ≤ s.size ∧ i = .int .i64 j ∧ r = .int .u32 (vI (runB C (s.data.toList.take j)))) (fun _ i => s.size - (intOf i).toNat)
  case atStart => exact ⟨0, Nat.zero_le _, rfl, rfl⟩
  case round =>
    obtain ⟨j, hj, rfl, rfl⟩ := hrel
    by_cases hlt : j < s.size
    · have hc := HR.out j hlt
      have HS : Hid _ := runB_snoc C (s.data.toList.take j) s[j]
      have HS2 : Hid _ := take_snoc s j hlt
      have e1 := xor32 (runB C (s.data.toList.take j)) (ofB s[j])
      rw [← ofB_mod] at e1
      generalize runB C (s.data.toList.take j) = c0 at *
      generalize c0 ^^^ ofB s[j] = c1 at *
      obtain ⟨n1, s1, d1, f1, g1, t1, k1, x1⟩ := half_facts c1
      have T1 := HT.out n1
      rw [t1] at T1
      generalize stn 4 c1 = c2 at *
      obtain ⟨n2, s2, d2, f2, g2, t2, k2, x2⟩ := half_facts c2
      have T2 := HT.out n2
      rw [t2] at T2
      generalize stn 4 c2 = c3 at *
      clear t1 t2
      go_wp2
      go_round
      case rel => exact ⟨j + 1, by omega, by go_num, by rw [HS2.out, HS.out]⟩
      case measure => simp [intOf]; omega
    · have hn := not32_vI (runB C (s.data.toList.take j))
      have hw := wrap64_vI (runB C (s.data.toList.take j) ^^^ ones)
      rw [List.take_of_length_le (by simp; omega)] at *
      go_wp2
      go_ret
      exact ⟨rfl, HB.out⟩
end Go.Proofs.YtgodjnbbocnckaaGreat.Sm

namespace Go.Proofs.YtgodjnbbocnckaaGreat.Sm
open Go.RowKit
set_option linter.unusedVariables false
set_option linter.unusedSimpArgs false
set_option maxRecDepth 100000

theorem Sum_any (s : ByteArray) (w : World) (hs : s.size ≤ 281474976710656) :
    Calls Tryz.prog 112 #[.string s] w fun e w' => e = .returned (.int .i64 (vI (sumB s.data.toList))) ∧ Below w.heap.size w w' := by
  have C1 : Hid (∀ w, Calls Tryz.prog 142 #[.int .i64 0, .string s] w fun e w' => e = .returned (.int .i64 (vI (sumB s.data.toList))) ∧ Below w.heap.size w w') := by
    intro w
    have := More_any 0 s w hs
    rw [show BitVec.ofInt 32 0 = 0#32 from rfl, more_zero] at this
    exact this
  clear hs
  go_enter Tryz.func112, Tryz.ntmps112
  go_wp2_with (go_at_call 142; refine (C1.out _).mono ?_; rintro e w1 ⟨rfl, hb1⟩)
  go_ret
  exact ⟨rfl, hb1⟩

theorem ofB_wrap (b : UInt8) : wrap64 (b.toNat : Int) = vI (ofB b) := by
  rw [ofB_vI, wrap64_vI]
theorem quo_two (c : R) : wrap64 ((vI c).tdiv 2) = vI (c >>> 1) := by
  rw [Int.tdiv_eq_ediv_of_nonneg (vI_nonneg c), shr32, wrap64_vI]
theorem mod_two (c : R) : vI c % (2 : Int) = if c.getLsbD 0 then 1 else 0 := by
  unfold vI
  have : c.getLsbD 0 = decide (c.toNat % 2 = 1) := by
    rw [BitVec.getLsbD, Nat.testBit_zero]
  rw [this]
  by_cases h : c.toNat % 2 = 1
  · simp [h]; omega
  · simp [h]; omega
def cutV (s : ByteArray) : ByteArray := if 3000 < s.size then s.extract 0 3000 else s
theorem cutV_size (s : ByteArray) : (cutV s).size ≤ 3000 := by
  unfold cutV
  split
  · rw [ByteArray.size_extract]; omega
  · omega
end Go.Proofs.YtgodjnbbocnckaaGreat.Sm

namespace Go.Proofs.YtgodjnbbocnckaaGreat.Sm
open Go.RowKit Go.Proofs.YtgodjnbbocnckaaGreat.Pk
set_option linter.unusedVariables false
set_option linter.unusedSimpArgs false
set_option maxRecDepth 100000

def sumI (s : ByteArray) : Int := vI (sumB s.data.toList)

theorem Sum_I (s : ByteArray) (w : World) (hs : s.size ≤ 281474976710656) :
    Calls Tryz.prog 112 #[.string s] w fun e w' => e = .returned (.int .i64 (sumI s)) ∧ Below w.heap.size w w' := Sum_any s w hs

theorem below_dr {b : Nat} {a w : World} (h : Below b a w) (n : Nat) : Below b a (w.drewN n) := ⟨h.os, h.tape, h.output, h.size, h.block⟩

theorem nil_append (s : ByteArray) : (⟨#[]⟩ : ByteArray) ++ s = s := by apply ByteArray.ext; simp [ByteArray.data_append]

theorem Put_four (n : Int) (w : World) (h0 : 0 ≤ n) (hn : n < 4294967296) :
    Calls Tryz.prog 98 #[.string ⟨#[]⟩, .int .i64 n, .int .i64 4] w fun e w' => e = .returned (.tuple #[.string (beS n.toNat 4), .int .i64 0]) ∧ Below w.heap.size w w' := by
  have hz : (beS n.toNat 4).size ≤ 6 := by rw [beS_size]; omega
  have C1 : Hid (∀ w, Calls Tryz.prog 121 #[.int .i64 n, .int .i64 4] w fun e w' => e = .returned (.string (beS n.toNat 4)) ∧ Below w.heap.size w w') := by
    intro w
    have h := num_4 n.toNat w (by omega)
    rw [Int.toNat_of_nonneg h0] at h
    exact h
  go_enter Tryz.func98, Tryz.ntmps98
  go_wp2_with (first | (go_at_call 87; refine (isWidth_any _ _).mono ?_; rintro e w' ⟨rfl, rfl⟩) | (go_at_call 121; refine (C1.out _).mono ?_; rintro e w1 ⟨rfl, hb⟩))
  go_ret2
  rw [nil_append]
  exact ⟨rfl, hb⟩

theorem Read_any (s : ByteArray) (w : World) :
    Calls Tryz.prog 69 #[.string s] w fun e w' => e = .returned (.pointer (some ⟨w.heap.size, 0, none⟩)) ∧ isRd w' w.heap.size s 0 ∧ Below w.heap.size w w' := by
  go_enter Tryz.func69, Tryz.ntmps69
  go_wp2
  go_ret
  exact ⟨rfl, (MapKept.heap_alloc w _).1, (Below.refl _ _).alloc (Nat.le_refl _) _⟩

theorem sumI_nonneg (s : ByteArray) : 0 ≤ sumI s := vI_nonneg _

theorem sumI_lt (s : ByteArray) : sumI s < 4294967296 := vI_lt _

/-- A text with its sum ahead. -/
def sealV (s : ByteArray) : ByteArray := beS (sumI s).toNat 4 ++ s

theorem Seal_any (s : ByteArray) (w : World) (hs : s.size ≤ 140737488351232) :
    Calls Tryz.prog 99 #[.string s] w fun e w' => e = .returned (.string (sealV s)) ∧ Below w.heap.size w w' := by
  have hz : (beS (sumI s).toNat 4).size ≤ 6 := by rw [beS_size]; omega
  have C1 : Hid _ := fun w => Sum_I s w (by omega)
  have C2 : Hid _ := fun w => Put_four (sumI s) w (sumI_nonneg s) (sumI_lt s)
  have HV : Hid (sealV s = beS (sumI s).toNat 4 ++ s) := by rfl
  generalize sumI s = n at *
  generalize sealV s = v at *
  generalize beS n.toNat 4 = b at *
  go_enter Tryz.func99, Tryz.ntmps99
  go_wp2_with (first | (go_at_call 112; refine (C1.out _).mono ?_; rintro e w1 ⟨rfl, hb1⟩) | (go_at_call 98; refine (C2.out _).mono ?_; rintro e w2 ⟨rfl, hb2⟩))
  go_ret
  rw [HV.out]
  exact ⟨rfl, hb1.trans (hb2.mono hb1.size)⟩

/-- What Open returns. -/
def openV (s : ByteArray) : ByteArray × Int :=
  if s.size < 4 then (⟨#[]⟩, 2) else if sumI (s.extract 4 s.size) = beN (s.extract 0 4).data.toList then (s.extract 4 s.size, 0) else (⟨#[]⟩, 5)

theorem rdNum_four (s : ByteArray) (h : ¬ s.size < 4) : rdNum s 0 4 = (beN (s.extract 0 4).data.toList, s.extract 4 s.size, 0) := by
  have e1 : rdNumSt s 0 4 = (s, 0) := by unfold rdNumSt; rw [if_neg (by omega)]
  have e2 : rdRaw s 0 4 = (s.extract 0 4, s.extract 4 s.size, 0) := rdRaw_fits (by omega) (by omega)
  unfold rdNum
  rw [e1]
  dsimp only
  rw [e2]

theorem rdNum_short (s : ByteArray) (h : s.size < 4) : rdNum s 0 4 = (0, ⟨#[]⟩, 2) := by
  have e1 : rdNumSt s 0 4 = (s, 0) := by unfold rdNumSt; rw [if_neg (by omega)]
  have e2 : rdRaw s 0 4 = (⟨#[]⟩, ⟨#[]⟩, 2) := rdRaw_short (by omega) (by omega)
  unfold rdNum
  rw [e1]
  dsimp only
  rw [e2]
  rfl

theorem rdRaw_all (l : ByteArray) : rdRaw l 0 (l.size : Int) = (l, ⟨#[]⟩, 0) := by
  rw [rdRaw_fits (by omega) (by omega), Int.toNat_natCast]
  have e1 : l.extract 0 l.size = l := by apply ByteArray.ext; simp [ByteArray.data_extract]
  have e2 : l.extract l.size l.size = ⟨#[]⟩ := by apply ByteArray.ext; simp [ByteArray.data_extract]
  rw [e1, e2]

set_option maxHeartbeats 1000000 in
theorem Open_any (s : ByteArray) (w : World) (hs : s.size ≤ 140737488351232) :
    Calls Tryz.prog 94 #[.string s] w fun e w' => e = .returned (.tuple #[.string (openV s).1, .int .i64 (openV s).2]) ∧ Below w.heap.size w w' := by
  unfold openV
  by_cases h4 : s.size < 4
  · rw [if_pos h4]
    have c1 := fun b w h => Num_any b s 0 4 w hs h
    rw [rdNum_short s h4] at c1
    dsimp only at c1
    have C1 : Hid _ := c1
    have C2 : Hid _ := fun b w h => Left_any b ⟨#[]⟩ 2 w (Nat.zero_le _) h
    have c3 := fun b w h => Raw_any b ⟨#[]⟩ 2 0 w (Nat.zero_le _) h
    rw [rdRaw_had (by decide)] at c3
    dsimp only at c3
    have C3 : Hid _ := c3
    have C4 : Hid _ := fun b w h => Err_any b ⟨#[]⟩ 2 w h
    clear c1 c3 hs h4
    go_enter Tryz.func94, Tryz.ntmps94
    go_wp2_with (first | (go_at_call 69; refine (Read_any _ _).mono ?_; rintro e w1 ⟨rfl, h1, b1⟩) | (go_at_call 70; refine (C1.out _ _ h1).mono ?_; rintro e w2 ⟨rfl, h2, o2⟩) | (go_at_call 90; refine (C2.out _ _ h2).mono ?_; rintro e w3 ⟨rfl, rfl⟩) | (go_at_call 72; refine (C3.out _ _ h2).mono ?_; rintro e w4 ⟨rfl, h4, o4⟩) | (go_at_call 91; refine (C4.out _ _ h4).mono ?_; rintro e w5 ⟨rfl, rfl⟩))
    go_ret2
    exact ⟨rfl, b1.trans ((o2.trans o4).below (Nat.le_refl _) b1.size)⟩
  · rw [if_neg h4]
    have c1 := fun b w h => Num_any b s 0 4 w hs h
    rw [rdNum_four s h4] at c1
    dsimp only at c1
    have hl : (s.extract 4 s.size).size ≤ 140737488351232 := by rw [ByteArray.size_extract]; omega
    generalize s.extract 4 s.size = l at *
    generalize beN (s.extract 0 4).data.toList = k at *
    have C1 : Hid _ := c1
    have C2 : Hid _ := fun b w h => Left_any b l 0 w hl h
    have c3 := fun b w h => Raw_any b l 0 l.size w hl h
    rw [rdRaw_all] at c3
    dsimp only at c3
    have C3 : Hid _ := c3
    have C4 : Hid _ := fun b w h => Err_any b ⟨#[]⟩ 0 w h
    have C5 : Hid _ := fun w => Sum_I l w (by omega)
    clear c1 c3 hs h4 hl
    by_cases he : sumI l = k
    · rw [if_pos he]
      have ht : (sumI l != (k : Int)) = false := by rw [he]; simp
      clear he
      go_enter Tryz.func94, Tryz.ntmps94
      go_wp2_with (first | (go_at_call 69; refine (Read_any _ _).mono ?_; rintro e w1 ⟨rfl, h1, b1⟩) | (go_at_call 70; refine (C1.out _ _ h1).mono ?_; rintro e w2 ⟨rfl, h2, o2⟩) | (go_at_call 90; refine (C2.out _ _ h2).mono ?_; rintro e w3 ⟨rfl, rfl⟩) | (go_at_call 72; refine (C3.out _ _ h2).mono ?_; rintro e w4 ⟨rfl, h4, o4⟩) | (go_at_call 91; refine (C4.out _ _ h4).mono ?_; rintro e w5 ⟨rfl, rfl⟩) | (go_at_call 112; refine (C5.out _).mono ?_; rintro e w6 ⟨rfl, b6⟩))
      go_ret2
      have b4 := b1.trans ((o2.trans o4).below (Nat.le_refl _) b1.size)
      exact ⟨rfl, b4.trans (b6.mono b4.size)⟩
    · rw [if_neg he]
      have ht : (sumI l != (k : Int)) = true := by simpa using he
      clear he
      go_enter Tryz.func94, Tryz.ntmps94
      go_wp2_with (first | (go_at_call 69; refine (Read_any _ _).mono ?_; rintro e w1 ⟨rfl, h1, b1⟩) | (go_at_call 70; refine (C1.out _ _ h1).mono ?_; rintro e w2 ⟨rfl, h2, o2⟩) | (go_at_call 90; refine (C2.out _ _ h2).mono ?_; rintro e w3 ⟨rfl, rfl⟩) | (go_at_call 72; refine (C3.out _ _ h2).mono ?_; rintro e w4 ⟨rfl, h4, o4⟩) | (go_at_call 91; refine (C4.out _ _ h4).mono ?_; rintro e w5 ⟨rfl, rfl⟩) | (go_at_call 112; refine (C5.out _).mono ?_; rintro e w6 ⟨rfl, b6⟩))
      go_ret2
      have b4 := b1.trans ((o2.trans o4).below (Nat.le_refl _) b1.size)
      exact ⟨rfl, b4.trans (b6.mono b4.size)⟩

theorem open_seal (s : ByteArray) : openV (beS (sumI s).toNat 4 ++ s) = (s, 0) := by
  have hz := beS_size (sumI s).toNat 4
  have h0 := sumI_nonneg s
  have h1 := sumI_lt s
  have e1 := extract_left (beS (sumI s).toNat 4) s
  have e2 := extract_right (beS (sumI s).toNat 4) s
  have e3 : (beS (sumI s).toNat 4).data.toList = be (sumI s).toNat 4 := by simp [beS]
  have e4 := beN_be 4 (sumI s).toNat (by omega)
  rw [hz] at e1 e2
  unfold openV
  rw [if_neg (by rw [ByteArray.size_append, hz]; omega), e1, e2, e3, e4, if_pos (by omega)]
end Go.Proofs.YtgodjnbbocnckaaGreat.Sm

namespace Go.Proofs.YtgodjnbbocnckaaGreat
open Go.RowKit
set_option linter.unusedVariables false
set_option linter.unusedSimpArgs false
set_option maxRecDepth 100000

/-- A reader in block b. -/
structure RdS (w : World) (b : Nat) (q : Lf) : Prop where
  rd : Pk.isRd w b q.1 q.2
  sz : q.1.size ≤ 140737488351232
section
variable {w w' : World} {b c : Nat} {q : Lf}
theorem RdS.lt (h : RdS w b q) : b < w.heap.size := h.rd.lt
theorem RdS.below (h : RdS w b q) (hb : Below w.heap.size w w') : RdS w' b q := ⟨h.rd.below hb, h.sz⟩
theorem RdS.off (h : RdS w b q) (hb : Pk.Off c w w') (hn : b ≠ c) : RdS w' b q := ⟨h.rd.off hb hn, h.sz⟩
theorem RdS.num (h : RdS w b q) (k : Int) : Calls Tryz.prog 70 #[.pointer (some ⟨b, 0, none⟩), .int .i64 k] w fun r w' => r = .returned (.int .i64 (nN q k)) ∧ RdS w' b (sN q k) ∧ Pk.Off b w w' :=
  (Pk.Num_any b q.1 q.2 k w h.sz h.rd).mono fun e w' ⟨he, h1, o1⟩ => ⟨he, ⟨h1, Nat.le_trans (sN_size q k) h.sz⟩, o1⟩
theorem RdS.text (h : RdS w b q) (m : Int) : Calls Tryz.prog 143 #[.pointer (some ⟨b, 0, none⟩), .int .i64 m] w fun r w' => r = .returned (.string (tT q m)) ∧ RdS w' b (sT q m) ∧ Pk.Off b w w' :=
  (Pk.RText_any b q.1 q.2 m w h.sz h.rd).mono fun e w' ⟨he, h1, o1⟩ => ⟨he, ⟨h1, Nat.le_trans (sT_size q m) h.sz⟩, o1⟩
end
/-- Cells in a block. -/
structure Blk (w : World) (b : Nat) (C : Array Value) (t : TypeId) : Prop where
  blk : w.heap[b]? = some (.cells C t)
structure PutB (w w' : World) (b : Nat) (C : Array Value) (t : TypeId) : Prop where
  bl : Blk w' b C t
  off : Pk.Off b w w'
section
variable {w w' : World} {b c : Nat} {C : Array Value} {t : TypeId}
theorem Blk.lt (h : Blk w b C t) : b < w.heap.size := (Array.getElem?_eq_some_iff.1 h.blk).1
theorem Blk.below (h : Blk w b C t) (hb : Below w.heap.size w w') : Blk w' b C t := ⟨(hb.block b h.lt).trans h.blk⟩
theorem Blk.off (h : Blk w b C t) (hb : Pk.Off c w w') (hn : b ≠ c) : Blk w' b C t := ⟨(hb.block b h.lt hn).trans h.blk⟩
theorem Blk.cell (h : Blk w b C t) (k : Nat) : w.cell? ⟨b, k, none⟩ = C[k]? := Joins.cell_of_block h.blk k
theorem wpList_bput {k : Nat} {v : Value} {ops : Array Oper} {rest : List Oper} {o : Oper} {a : Act} {Q : Exit → Act → World → Prop} (w : World) (hg : o.guard = none) (ty : TypeId) (x y : Operand) (hop : o.op = Op.store ty x y)
    (hx : a.eval x = .pointer (some ⟨b, k, none⟩)) (hy : a.eval y = v) (hs : Blk w b C t) (hk : k < C.size) (h1 : v.oneCell' = true) (hi : (Tryz.prog.info? ty).map (·.size) = some 1)
    (h : ∀ w', PutB w w' b (C.setIfInBounds k v) t → wpList Tryz.prog ops Q rest (a.put o.dst undef) w') : wpList Tryz.prog ops Q (o :: rest) a w := by
  have hc : ∃ u, w.cell? ⟨b, k, none⟩ = some u := by
    rw [hs.cell k]
    exact ⟨_, Array.getElem?_eq_getElem hk⟩
  obtain ⟨u, hu⟩ := hc
  have hf : w.frozen? ⟨b, k, none⟩ = false := Joins.unfrozen_of_block hs.blk k
  refine wpList_plain hg fun K' hK' => ?_
  unfold Oper.wp
  have hrun : (Instr.storeAt ty (.pointer (some ⟨b, k, none⟩)) v).run Tryz.prog w = .ok () (w.setCell ⟨b, k, none⟩ v) := by
    have hcs : v.cells = #[v] := by cases v <;> first | rfl | cases h1
    have g1 : ∀ j, j < [v].length → (w.cell? ⟨b, k + 0 + j, none⟩).isSome = true := by
      intro j hj
      obtain rfl : j = 0 := by simpa using hj
      simp [hu]
    have g2 : ∀ j, j < [v].length → w.frozen? ⟨b, k + 0 + j, none⟩ = false := by
      intro j hj
      obtain rfl : j = 0 := by simpa using hj
      simpa using hf
    have := run_storeCells_cells (P := Tryz.prog) b k [v] 0 w g1 g2 (fun x hx => by simp at hx; subst hx; exact h1)
    cases hq : Tryz.prog.info? ty with
    | none => simp [hq] at hi
    | some i =>
      have hs : i.size = 1 := by simpa [hq] using hi
      simp only [Nat.add_zero] at this
      simp [Instr.storeAt, Instr.sureAddr, storeVar, sizeOf, typeInfo, hq, hcs, hs, this, World.setCells]
  simp [execOp, hop, hx, hy, hrun, Result.andThen]
  exact hK' _ _ (h _ ⟨⟨Joins.block_setCell hs.blk _⟩, (Pk.Off.refl _ _).setCell _ _⟩)
end
/-- All blocks but b and c are as they were. -/
structure Off2 (b c : Nat) (w w' : World) : Prop where
  os : w'.os = w.os
  tape : w'.tape = w.tape
  output : w'.output = w.output
  size : w.heap.size ≤ w'.heap.size
  block : ∀ k, k < w.heap.size → k ≠ b → k ≠ c → w'.heap[k]? = w.heap[k]?
section
variable {w w1 w2 : World} {b c d : Nat}
theorem Off2.refl (b c : Nat) (w : World) : Off2 b c w w := ⟨rfl, rfl, rfl, Nat.le_refl _, fun _ _ _ _ => rfl⟩
theorem Off2.left (h : Off2 b c w w1) (o : Pk.Off b w1 w2) : Off2 b c w w2 := ⟨o.os.trans h.os, o.tape.trans h.tape, o.output.trans h.output, Nat.le_trans h.size o.size, fun k hk hb hc => (o.block k (Nat.lt_of_lt_of_le hk h.size) hb).trans (h.block k hk hb hc)⟩
theorem Off2.right (h : Off2 b c w w1) (o : Pk.Off c w1 w2) : Off2 b c w w2 := ⟨o.os.trans h.os, o.tape.trans h.tape, o.output.trans h.output, Nat.le_trans h.size o.size, fun k hk hb hc => (o.block k (Nat.lt_of_lt_of_le hk h.size) hc).trans (h.block k hk hb hc)⟩
theorem Off2.below (h : Off2 b c w w1) (o : Below w1.heap.size w1 w2) : Off2 b c w w2 := ⟨o.os.trans h.os, o.tape.trans h.tape, o.output.trans h.output, Nat.le_trans h.size o.size, fun k hk hb hc => (o.block k (Nat.lt_of_lt_of_le hk h.size)).trans (h.block k hk hb hc)⟩
theorem Off2.trans (h : Off2 b c w w1) (o : Off2 b c w1 w2) : Off2 b c w w2 := ⟨o.os.trans h.os, o.tape.trans h.tape, o.output.trans h.output, Nat.le_trans h.size o.size, fun k hk hb hc => (o.block k (Nat.lt_of_lt_of_le hk h.size) hb hc).trans (h.block k hk hb hc)⟩
theorem Off2.bel {B : Nat} (h : Off2 b c w w1) (hb : B ≤ b) (hc : B ≤ c) (hB : B ≤ w.heap.size) : Below B w w1 := ⟨h.os, h.tape, h.output, h.size, fun k hk => h.block k (by omega) (by omega) (by omega)⟩
theorem Off2.one (h : Off2 b c w w1) (hc : w.heap.size ≤ c) : Pk.Off b w w1 := ⟨h.os, h.tape, h.output, h.size, fun k hk hb => h.block k hk hb (by omega)⟩
end
/-- The reader, the places and the row of pointers while they are read. -/
structure RpS (w wx : World) (b g b0 : Nat) (G C : Array Value) (t : TypeId) (q : Lf) : Prop where
  rd : RdS wx b q
  gp : Blk wx g G 166
  bl : Blk wx b0 C t
  off : Off2 b b0 w wx
  n1 : b ≠ g
  n2 : b ≠ b0
  n3 : g ≠ b0
section
variable {w wx wq : World} {b g b0 : Nat} {G C : Array Value} {t : TypeId} {q : Lf}
theorem RpS.num (h : RpS w wx b g b0 G C t q) (k : Int) : Calls Tryz.prog 70 #[.pointer (some ⟨b, 0, none⟩), .int .i64 k] wx fun r w' => r = .returned (.int .i64 (nN q k)) ∧ RpS w w' b g b0 G C t (sN q k) :=
  (h.rd.num k).mono fun e w' ⟨he, h1, o1⟩ => ⟨he, ⟨h1, h.gp.off o1 (fun e => h.n1 e.symm), h.bl.off o1 (fun e => h.n2 e.symm), h.off.left o1, h.n1, h.n2, h.n3⟩⟩
theorem RpS.put {C' : Array Value} (h : RpS w wx b g b0 G C t q) (P : PutB wx wq b0 C' t) : RpS w wq b g b0 G C' t q :=
  ⟨h.rd.off P.off h.n2, h.gp.off P.off h.n3, P.bl, h.off.right P.off, h.n1, h.n2, h.n3⟩
end
set_option maxHeartbeats 1000000 in
theorem readPlaces_2 {w : World} {b g b0 k0 k1 : Nat} {C : Array Value} {t : TypeId} {q : Lf} (H : RpS w w b g b0 #[.pointer (some ⟨b0, k0, none⟩), .pointer (some ⟨b0, k1, none⟩)] C t q) (h0 : k0 < C.size) (h1 : k1 < C.size) :
    Calls Tryz.prog 114 #[.pointer (some ⟨b, 0, none⟩), .slice (some ⟨g, 0, none⟩) 2 2] w fun e w' => e = .returned (.tuple #[]) ∧ RdS w' b (sN (sN q 6) 6) ∧ Blk w' b0 ((C.setIfInBounds k0 (.int .i64 (nN q 6))).setIfInBounds k1 (.int .i64 (nN (sN q 6) 6))) t ∧ Off2 b b0 w w' := by
  have h1' : ∀ v, k1 < (C.setIfInBounds k0 v).size := fun v => by simpa using h1
  have z0 := H.gp.cell 0
  have z1 := H.gp.cell 1
  simp only [List.getElem?_toArray, List.getElem?_cons_zero, List.getElem?_cons_succ] at z0 z1
  go_enter Tryz.func114, Tryz.ntmps114
  go_wp2
  refine wp_loop_rounds 3 ?_
  rw [rounds_succ]
  go_wp2_with (first
    | (go_at_call 70; refine (H.num _).mono ?_; clear H; rintro e w1 ⟨rfl, H⟩)
    | (refine wpList_bput _ rfl 3 (.tmp 15) (.tmp 14) rfl rfl rfl H.bl h0 rfl (by kernel_rfl) ?_; intro w2 P2; have H1 := H.put P2; clear H P2; have H := H1; clear H1; have z1 := H.gp.cell 1; simp only [List.getElem?_toArray, List.getElem?_cons_zero, List.getElem?_cons_succ] at z1))
  rw [rounds_succ]
  go_wp2_with (first
    | (go_at_call 70; refine (H.num _).mono ?_; clear H; rintro e w1 ⟨rfl, H⟩)
    | (refine wpList_bput _ rfl 3 (.tmp 15) (.tmp 14) rfl rfl rfl H.bl (h1' _) rfl (by kernel_rfl) ?_; intro w2 P2; have H1 := H.put P2; clear H P2; have H := H1; clear H1))
  rw [rounds_succ]
  go_wp2
  go_end0
  exact ⟨rfl, H.rd, H.bl, H.off⟩
set_option maxHeartbeats 1000000 in
theorem readPlaces_3 {w : World} {b g b0 k0 k1 k2 : Nat} {C : Array Value} {t : TypeId} {q : Lf} (H : RpS w w b g b0 #[.pointer (some ⟨b0, k0, none⟩), .pointer (some ⟨b0, k1, none⟩), .pointer (some ⟨b0, k2, none⟩)] C t q) (h0 : k0 < C.size) (h1 : k1 < C.size) (h2 : k2 < C.size) :
    Calls Tryz.prog 114 #[.pointer (some ⟨b, 0, none⟩), .slice (some ⟨g, 0, none⟩) 3 3] w fun e w' => e = .returned (.tuple #[]) ∧ RdS w' b (sN (sN (sN q 6) 6) 6) ∧ Blk w' b0 (((C.setIfInBounds k0 (.int .i64 (nN q 6))).setIfInBounds k1 (.int .i64 (nN (sN q 6) 6))).setIfInBounds k2 (.int .i64 (nN (sN (sN q 6) 6) 6))) t ∧ Off2 b b0 w w' := by
  have h1' : ∀ v, k1 < (C.setIfInBounds k0 v).size := fun v => by simpa using h1
  have h2' : ∀ v u, k2 < ((C.setIfInBounds k0 v).setIfInBounds k1 u).size := fun v u => by simpa using h2
  have z0 := H.gp.cell 0
  simp only [List.getElem?_toArray, List.getElem?_cons_zero, List.getElem?_cons_succ] at z0
  go_enter Tryz.func114, Tryz.ntmps114
  go_wp2
  refine wp_loop_rounds 4 ?_
  rw [rounds_succ]
  go_wp2_with (first
    | (go_at_call 70; refine (H.num _).mono ?_; clear H; rintro e w1 ⟨rfl, H⟩)
    | (refine wpList_bput _ rfl 3 (.tmp 15) (.tmp 14) rfl rfl rfl H.bl h0 rfl (by kernel_rfl) ?_; intro w2 P2; have H1 := H.put P2; clear H P2; have H := H1; clear H1; have z1 := H.gp.cell 1; simp only [List.getElem?_toArray, List.getElem?_cons_zero, List.getElem?_cons_succ] at z1))
  rw [rounds_succ]
  go_wp2_with (first
    | (go_at_call 70; refine (H.num _).mono ?_; clear H; rintro e w1 ⟨rfl, H⟩)
    | (refine wpList_bput _ rfl 3 (.tmp 15) (.tmp 14) rfl rfl rfl H.bl (h1' _) rfl (by kernel_rfl) ?_; intro w2 P2; have H1 := H.put P2; clear H P2; have H := H1; clear H1; have z2 := H.gp.cell 2; simp only [List.getElem?_toArray, List.getElem?_cons_zero, List.getElem?_cons_succ] at z2))
  rw [rounds_succ]
  go_wp2_with (first
    | (go_at_call 70; refine (H.num _).mono ?_; clear H; rintro e w1 ⟨rfl, H⟩)
    | (refine wpList_bput _ rfl 3 (.tmp 15) (.tmp 14) rfl rfl rfl H.bl (h2' _ _) rfl (by kernel_rfl) ?_; intro w2 P2; have H1 := H.put P2; clear H P2; have H := H1; clear H1))
  rw [rounds_succ]
  go_wp2
  go_end0
  exact ⟨rfl, H.rd, H.bl, H.off⟩
end Go.Proofs.YtgodjnbbocnckaaGreat

namespace Go.Proofs.YtgodjnbbocnckaaGreat
open Go.RowKit
set_option linter.unusedVariables false
set_option linter.unusedSimpArgs false
set_option maxRecDepth 100000

/-- A reader in block b beside a record in block b0. -/
structure RcS (w wx : World) (b b0 : Nat) (s : Sc) (I T : Value) (q : Lf) : Prop where
  rd : RdS wx b q
  rc : RcAt wx b0 s I T
  off : Off2 b b0 w wx
  ne : b ≠ b0
section
variable {w wx wq : World} {b b0 : Nat} {s s' : Sc} {I T I' T' : Value} {q : Lf}
theorem RcS.num (h : RcS w wx b b0 s I T q) (k : Int) : Calls Tryz.prog 70 #[.pointer (some ⟨b, 0, none⟩), .int .i64 k] wx fun r w' => r = .returned (.int .i64 (nN q k)) ∧ RcS w w' b b0 s I T (sN q k) :=
  (h.rd.num k).mono fun e w' ⟨he, h1, o1⟩ => ⟨he, ⟨h1, h.rc.off o1 (fun e => h.ne e.symm), h.off.left o1, h.ne⟩⟩
theorem RcS.text (h : RcS w wx b b0 s I T q) (m : Int) : Calls Tryz.prog 143 #[.pointer (some ⟨b, 0, none⟩), .int .i64 m] wx fun r w' => r = .returned (.string (tT q m)) ∧ RcS w w' b b0 s I T (sT q m) :=
  (h.rd.text m).mono fun e w' ⟨he, h1, o1⟩ => ⟨he, ⟨h1, h.rc.off o1 (fun e => h.ne e.symm), h.off.left o1, h.ne⟩⟩
theorem RcS.put (h : RcS w wx b b0 s I T q) (P : PutR wx wq b0 s' I' T') : RcS w wq b b0 s' I' T' q := ⟨h.rd.off P.off h.ne, P.rc, h.off.right P.off, h.ne⟩
theorem RcS.below (h : RcS w wx b b0 s I T q) (hb : Below wx.heap.size wx wq) : RcS w wq b b0 s I T q := ⟨h.rd.below hb, h.rc.below hb, h.off.below hb, h.ne⟩
/-- The same, and the pointers to the values. -/
structure RvS (w wx : World) (b b0 g : Nat) (s : Sc) (I T : Value) (q : Lf) (P : Array Value) : Prop where
  r : RcS w wx b b0 s I T q
  pg : Blk wx g P 195
  n1 : g ≠ b
  n2 : g ≠ b0
theorem RvS.text {g : Nat} {P : Array Value} (h : RvS w wx b b0 g s I T q P) (m : Int) : Calls Tryz.prog 143 #[.pointer (some ⟨b, 0, none⟩), .int .i64 m] wx fun r w' => r = .returned (.string (tT q m)) ∧ RvS w w' b b0 g s I T (sT q m) P :=
  (h.r.rd.text m).mono fun e w' ⟨he, h1, o1⟩ => ⟨he, ⟨⟨h1, h.r.rc.off o1 (fun e => h.r.ne e.symm), h.r.off.left o1, h.r.ne⟩, h.pg.off o1 h.n1, h.n1, h.n2⟩⟩
theorem RvS.put {g : Nat} {P : Array Value} (h : RvS w wx b b0 g s I T q P) (Q : PutR wx wq b0 s' I' T') : RvS w wq b b0 g s' I' T' q P := ⟨h.r.put Q, h.pg.off Q.off h.n2, h.n1, h.n2⟩
end
section
variable {w : World} {b b0 : Nat} {s : Sc} {I T : Value} {q : Lf}
set_option maxHeartbeats 1000000 in
theorem readChange_3 (H : RcS w w b b0 s I T q) (ha : actOf s = 3) : Calls Tryz.prog 115 #[.pointer (some ⟨b, 0, none⟩), .pointer (some ⟨b0, 0, none⟩)] w fun e w' => e = .returned (.tuple #[]) ∧ RcS w w' b b0 (rcN s q) I T (sT (rq1 q) 32) := by
  have CV : Hid (∀ wr q', RcS w wr b b0 (rc1 s q) I T q' → Calls Tryz.prog 144 #[.pointer (some ⟨b0, 0, none⟩)] wr fun e w' => ∃ g, e = .returned (.slice (some ⟨g, 0, none⟩) 1 1) ∧ RvS w w' b b0 g (rc1 s q) I T q' #[.pointer (some ⟨b0, 7, none⟩)]) := fun wr q' R => by
    refine (values_3 R.rc ha).mono ?_
    rintro e w' ⟨he, hw'⟩
    refine ⟨wr.heap.size, he, ?_⟩
    subst hw'
    refine ⟨R.below ((Below.refl _ _).alloc (Nat.le_refl _) _), ⟨(MapKept.heap_alloc wr _).1⟩, by have := R.rd.lt; omega, by have := R.rc.lt; omega⟩
  go_enter Tryz.func115, Tryz.ntmps115
  go_wp2_with (first
    | (go_at_call 70; refine (H.num _).mono ?_; clear H; rintro e w1 ⟨rfl, H⟩)
    | (refine wpList_at (Op.store 3 (.tmp 10) (.tmp 8)) rfl ?_; refine wpList_fput (s' := {s with pg := nN q 2}) (I' := I) (T' := T) _ rfl 3 (.tmp 10) (.tmp 8) rfl rfl rfl H.rc (by omega) rfl (by kernel_rfl) rfl ?_; intro w2 P2; have H1 := H.put P2; clear H P2; have H := H1; clear H1)
    | (go_at_call 143; refine (H.text _).mono ?_; clear H; rintro e w3 ⟨rfl, H⟩; rw [show sT (sN q 2) 16 = rq1 q from rfl] at H)
    | (refine wpList_at (Op.store 9 (.tmp 15) (.tmp 13)) rfl ?_; refine wpList_fput (s' := (rc1 s q)) (I' := I) (T' := T) _ rfl 9 (.tmp 15) (.tmp 13) rfl rfl rfl H.rc (by omega) rfl (by kernel_rfl) ?_ ?_; exact rc1_set s q I T; intro w2 P2; have H1 := H.put P2; clear H P2; have H := H1; clear H1)
    | (go_at_call 144; refine (CV.out _ _ H).mono ?_; clear H; rintro e w4 ⟨g, rfl, LV⟩; have g0 := LV.pg.cell 0; simp only [List.getElem?_toArray, List.getElem?_cons_zero, List.getElem?_cons_succ] at g0))
  refine wp_loop_rounds 2 ?_
  rw [rounds_succ]
  go_wp2_with (first
    | (go_at_call 143; refine (LV.text _).mono ?_; clear LV; rintro e w4 ⟨rfl, LV⟩)
    | (refine wpList_at (Op.store 9 (.tmp 26) (.tmp 25)) rfl ?_; refine wpList_fput (s' := (rcN s q)) (I' := I) (T' := T) _ rfl 9 (.tmp 26) (.tmp 25) rfl rfl rfl LV.r.rc (by omega) rfl (by kernel_rfl) ?_ ?_; exact rcN_set s q I T; intro w5 P5; have L1 := LV.put P5; clear LV P5; have LV := L1; clear L1; have g0 := LV.pg.cell 0; simp only [List.getElem?_toArray, List.getElem?_cons_zero, List.getElem?_cons_succ] at g0))
  rw [rounds_succ]
  go_wp2
  go_end0
  exact ⟨rfl, LV.r⟩
set_option maxHeartbeats 1000000 in
theorem readChange_4 (H : RcS w w b b0 s I T q) (ha : actOf s = 4) : Calls Tryz.prog 115 #[.pointer (some ⟨b, 0, none⟩), .pointer (some ⟨b0, 0, none⟩)] w fun e w' => e = .returned (.tuple #[]) ∧ RcS w w' b b0 (rcO s q) I T (sT (rq1 q) 32) := by
  have CV : Hid (∀ wr q', RcS w wr b b0 (rc1 s q) I T q' → Calls Tryz.prog 144 #[.pointer (some ⟨b0, 0, none⟩)] wr fun e w' => ∃ g, e = .returned (.slice (some ⟨g, 0, none⟩) 1 1) ∧ RvS w w' b b0 g (rc1 s q) I T q' #[.pointer (some ⟨b0, 6, none⟩)]) := fun wr q' R => by
    refine (values_4 R.rc ha).mono ?_
    rintro e w' ⟨he, hw'⟩
    refine ⟨wr.heap.size, he, ?_⟩
    subst hw'
    refine ⟨R.below ((Below.refl _ _).alloc (Nat.le_refl _) _), ⟨(MapKept.heap_alloc wr _).1⟩, by have := R.rd.lt; omega, by have := R.rc.lt; omega⟩
  go_enter Tryz.func115, Tryz.ntmps115
  go_wp2_with (first
    | (go_at_call 70; refine (H.num _).mono ?_; clear H; rintro e w1 ⟨rfl, H⟩)
    | (refine wpList_at (Op.store 3 (.tmp 10) (.tmp 8)) rfl ?_; refine wpList_fput (s' := {s with pg := nN q 2}) (I' := I) (T' := T) _ rfl 3 (.tmp 10) (.tmp 8) rfl rfl rfl H.rc (by omega) rfl (by kernel_rfl) rfl ?_; intro w2 P2; have H1 := H.put P2; clear H P2; have H := H1; clear H1)
    | (go_at_call 143; refine (H.text _).mono ?_; clear H; rintro e w3 ⟨rfl, H⟩; rw [show sT (sN q 2) 16 = rq1 q from rfl] at H)
    | (refine wpList_at (Op.store 9 (.tmp 15) (.tmp 13)) rfl ?_; refine wpList_fput (s' := (rc1 s q)) (I' := I) (T' := T) _ rfl 9 (.tmp 15) (.tmp 13) rfl rfl rfl H.rc (by omega) rfl (by kernel_rfl) ?_ ?_; exact rc1_set s q I T; intro w2 P2; have H1 := H.put P2; clear H P2; have H := H1; clear H1)
    | (go_at_call 144; refine (CV.out _ _ H).mono ?_; clear H; rintro e w4 ⟨g, rfl, LV⟩; have g0 := LV.pg.cell 0; simp only [List.getElem?_toArray, List.getElem?_cons_zero, List.getElem?_cons_succ] at g0))
  refine wp_loop_rounds 2 ?_
  rw [rounds_succ]
  go_wp2_with (first
    | (go_at_call 143; refine (LV.text _).mono ?_; clear LV; rintro e w4 ⟨rfl, LV⟩)
    | (refine wpList_at (Op.store 9 (.tmp 26) (.tmp 25)) rfl ?_; refine wpList_fput (s' := (rcO s q)) (I' := I) (T' := T) _ rfl 9 (.tmp 26) (.tmp 25) rfl rfl rfl LV.r.rc (by omega) rfl (by kernel_rfl) ?_ ?_; exact rcO_set s q I T; intro w5 P5; have L1 := LV.put P5; clear LV P5; have LV := L1; clear L1; have g0 := LV.pg.cell 0; simp only [List.getElem?_toArray, List.getElem?_cons_zero, List.getElem?_cons_succ] at g0))
  rw [rounds_succ]
  go_wp2
  go_end0
  exact ⟨rfl, LV.r⟩
set_option maxHeartbeats 1000000 in
theorem readChange_o (H : RcS w w b b0 s I T q) (h3 : actOf s ≠ 3) (h4 : actOf s ≠ 4) : Calls Tryz.prog 115 #[.pointer (some ⟨b, 0, none⟩), .pointer (some ⟨b0, 0, none⟩)] w fun e w' => e = .returned (.tuple #[]) ∧ RcS w w' b b0 (rcB s q) I T (sT (sT (rq1 q) 32) 32) := by
  have CV : Hid (∀ wr q', RcS w wr b b0 (rc1 s q) I T q' → Calls Tryz.prog 144 #[.pointer (some ⟨b0, 0, none⟩)] wr fun e w' => ∃ g, e = .returned (.slice (some ⟨g, 0, none⟩) 2 2) ∧ RvS w w' b b0 g (rc1 s q) I T q' #[.pointer (some ⟨b0, 6, none⟩), .pointer (some ⟨b0, 7, none⟩)]) := fun wr q' R => by
    refine (values_o R.rc h3 h4).mono ?_
    rintro e w' ⟨he, hw'⟩
    refine ⟨wr.heap.size, he, ?_⟩
    subst hw'
    refine ⟨R.below (((Below.refl _ _).drew).alloc (Nat.le_refl _) _), ⟨(MapKept.heap_alloc wr.drew _).1⟩, by have := R.rd.lt; omega, by have := R.rc.lt; omega⟩
  go_enter Tryz.func115, Tryz.ntmps115
  go_wp2_with (first
    | (go_at_call 70; refine (H.num _).mono ?_; clear H; rintro e w1 ⟨rfl, H⟩)
    | (refine wpList_at (Op.store 3 (.tmp 10) (.tmp 8)) rfl ?_; refine wpList_fput (s' := {s with pg := nN q 2}) (I' := I) (T' := T) _ rfl 3 (.tmp 10) (.tmp 8) rfl rfl rfl H.rc (by omega) rfl (by kernel_rfl) rfl ?_; intro w2 P2; have H1 := H.put P2; clear H P2; have H := H1; clear H1)
    | (go_at_call 143; refine (H.text _).mono ?_; clear H; rintro e w3 ⟨rfl, H⟩; rw [show sT (sN q 2) 16 = rq1 q from rfl] at H)
    | (refine wpList_at (Op.store 9 (.tmp 15) (.tmp 13)) rfl ?_; refine wpList_fput (s' := (rc1 s q)) (I' := I) (T' := T) _ rfl 9 (.tmp 15) (.tmp 13) rfl rfl rfl H.rc (by omega) rfl (by kernel_rfl) ?_ ?_; exact rc1_set s q I T; intro w2 P2; have H1 := H.put P2; clear H P2; have H := H1; clear H1)
    | (go_at_call 144; refine (CV.out _ _ H).mono ?_; clear H; rintro e w4 ⟨g, rfl, LV⟩; have g0 := LV.pg.cell 0; simp only [List.getElem?_toArray, List.getElem?_cons_zero, List.getElem?_cons_succ] at g0; have g1 := LV.pg.cell 1; simp only [List.getElem?_toArray, List.getElem?_cons_zero, List.getElem?_cons_succ] at g1))
  refine wp_loop_rounds 3 ?_
  rw [rounds_succ]
  go_wp2_with (first
    | (go_at_call 143; refine (LV.text _).mono ?_; clear LV; rintro e w4 ⟨rfl, LV⟩)
    | (refine wpList_at (Op.store 9 (.tmp 26) (.tmp 25)) rfl ?_; refine wpList_fput (s' := (rcO s q)) (I' := I) (T' := T) _ rfl 9 (.tmp 26) (.tmp 25) rfl rfl rfl LV.r.rc (by omega) rfl (by kernel_rfl) ?_ ?_; exact rcO_set s q I T; intro w5 P5; have L1 := LV.put P5; clear LV P5; have LV := L1; clear L1; have g0 := LV.pg.cell 0; simp only [List.getElem?_toArray, List.getElem?_cons_zero, List.getElem?_cons_succ] at g0; have g1 := LV.pg.cell 1; simp only [List.getElem?_toArray, List.getElem?_cons_zero, List.getElem?_cons_succ] at g1))
  rw [rounds_succ]
  go_wp2_with (first
    | (go_at_call 143; refine (LV.text _).mono ?_; clear LV; rintro e w4 ⟨rfl, LV⟩)
    | (refine wpList_at (Op.store 9 (.tmp 26) (.tmp 25)) rfl ?_; refine wpList_fput (s' := (rcB s q)) (I' := I) (T' := T) _ rfl 9 (.tmp 26) (.tmp 25) rfl rfl rfl LV.r.rc (by omega) rfl (by kernel_rfl) ?_ ?_; exact rcB_set s q I T; intro w5 P5; have L1 := LV.put P5; clear LV P5; have LV := L1; clear L1; have g0 := LV.pg.cell 0; simp only [List.getElem?_toArray, List.getElem?_cons_zero, List.getElem?_cons_succ] at g0; have g1 := LV.pg.cell 1; simp only [List.getElem?_toArray, List.getElem?_cons_zero, List.getElem?_cons_succ] at g1))
  rw [rounds_succ]
  go_wp2
  go_end0
  exact ⟨rfl, LV.r⟩
theorem readChange_any (H : RcS w w b b0 s I T q) (act : Int) (ha : act = actOf s) : Calls Tryz.prog 115 #[.pointer (some ⟨b, 0, none⟩), .pointer (some ⟨b0, 0, none⟩)] w fun e w' => e = .returned (.tuple #[]) ∧ RcS w w' b b0 (rdChg act s q).1 I T (rdChg act s q).2 := by
  unfold rdChg
  rw [ha]
  by_cases h3 : actOf s = 3
  · rw [if_pos h3]
    exact readChange_3 H h3
  · by_cases h4 : actOf s = 4
    · rw [if_neg h3, if_pos h4]
      exact readChange_4 H h4
    · rw [if_neg h3, if_neg h4]
      exact readChange_o H h3 h4
end
theorem Own.off {el : TypeId} {B b : Nat} {w w' : World} {a : Option Addr} {cap : Nat} {xs : List P2} (h : Own el B w a cap xs) (o : Pk.Off b w w') (hb : b < B) : Own el B w' a cap xs :=
  ⟨h.row.kept (fun k hk => o.block k (h.row.lt k hk) (fun e => by have := h.fresh k hk; omega)), h.fresh⟩
theorem Pk.Off.bel {b : Nat} {w w1 w2 : World} (h : Pk.Off b w w1) (hb : Below w.heap.size w1 w2) : Pk.Off b w w2 := ⟨hb.os.trans h.os, hb.tape.trans h.tape, hb.output.trans h.output, Nat.le_trans h.size hb.size, fun k hk hkb => (hb.block k hk).trans (h.block k hk hkb)⟩
theorem RdS.bel {w w' : World} {b B : Nat} {q : Lf} (h : RdS w b q) (hb : Below B w w') (hB : b < B) : RdS w' b q := ⟨(hb.block b hB).trans h.rd, h.sz⟩
theorem cs_one (w : World) (p : P2) (t : TypeId) : Cs (w.alloc (.cells #[p.1, p.2] t)) (some ⟨w.heap.size, 0, none⟩) [p] := ⟨fun i hi => by
  have h0 : i = 0 := by simpa using hi
  subst h0
  exact ⟨w.heap.size, 0, rfl, by simp, Joins.cell_of_block (MapKept.heap_alloc w _).1 0, Joins.cell_of_block (MapKept.heap_alloc w _).1 1⟩⟩
set_option maxHeartbeats 1000000 in
theorem readImages_any {w : World} {b : Nat} {q : Lf} (h : RdS w b q) : Calls Tryz.prog 113 #[.pointer (some ⟨b, 0, none⟩)] w fun e w' => (∃ v, e = .returned v ∧ Fr w' v (encI (rdImL (sN q 1) (nN q 1).toNat)) w.heap.size) ∧ RdS w' b (rdImS (sN q 1) (nN q 1).toNat) ∧ Pk.Off b w w' := by
  obtain ⟨n, hn⟩ : ∃ n : Nat, nN q 1 = n := ⟨(nN q 1).toNat, by have := nN_nonneg q 1; omega⟩
  have hn2 : n ≤ 255 := by have := nN_one q; omega
  have hbl := h.lt
  have C0 : Hid (Calls Tryz.prog 70 #[.pointer (some ⟨b, 0, none⟩), .int .i64 1] w fun r w' => r = .returned (.int .i64 (n : Int)) ∧ RdS w' b (sN q 1) ∧ Pk.Off b w w') := by rw [← hn]; exact h.num 1
  have HN : Hid ((nN q 1).toNat = n) := (by rw [hn]; rfl : (nN q 1).toNat = n)
  rw [HN.out]
  generalize sN q 1 = q1 at *
  clear hn h HN
  go_enter Tryz.func113, Tryz.ntmps113
  go_wp2_with (go_at_call 70; refine C0.out.mono ?_; clear C0; rintro e w1 ⟨rfl, h1, o1⟩)
  go_loopw [3, 8] (fun pv ix wr => ∃ (j : Nat) (a : Option Addr) (c : Nat), j ≤ n ∧ ix = .int .i64 (j : Int) ∧ pv = .slice a j c ∧ Own 191 w.heap.size wr a c (encI (rdImL q1 j)) ∧ RdS wr b (rdImS q1 j) ∧ Pk.Off b w wr) (fun _ ix _ => n - (intOf ix).toNat)
  case atStart => exact ⟨0, none, 0, Nat.zero_le _, rfl, rfl, Own.nil _ _ _, h1, o1⟩
  case round =>
    clear h1 o1
    obtain ⟨j, a, c, hj, rfl, rfl, hO, hR, ho⟩ := hrel
    by_cases hlt : j < n
    · have hi2 : (j : Int) < (n : Int) := by omega
      have hln : j = (encI (rdImL q1 j)).length := by rw [encI_length, rdImL_length]
      have HS : Hid (encI (rdImL q1 (j + 1)) = encI (rdImL q1 j) ++ [(.int .i64 (rdImF q1 j).1, .string (rdImF q1 j).2)]) := (by rw [rdImL_succ, encI_append]; rfl : encI (rdImL q1 (j + 1)) = encI (rdImL q1 j) ++ [(.int .i64 (rdImF q1 j).1, .string (rdImF q1 j).2)])
      have HQ : Hid (rdImS q1 (j + 1) = sT (sN (rdImS q1 j) 2) 224) := (rfl : rdImS q1 (j + 1) = sT (sN (rdImS q1 j) 2) 224)
      have HF : Hid (rdImF q1 j = (nN (rdImS q1 j) 2, tT (sN (rdImS q1 j) 2) 224)) := (rfl : rdImF q1 j = (nN (rdImS q1 j) 2, tT (sN (rdImS q1 j) 2) 224))
      have HL : Hid (j = (encI (rdImL q1 j)).length) := hln
      clear hln
      generalize encI (rdImL q1 j) = xs at *
      generalize rdImS q1 j = qj at *
      have hzz := ho.size
      have hBz : w.heap.size ≤ wr.heap.size := hzz
      go_wp2_with (first
        | (go_at_call 70; refine (hR.num _).mono ?_; clear hR; rintro e w2 ⟨rfl, hR2, o2⟩; have hO2 := hO.off o2 hbl; have ho2 := ho.trans o2; clear hO ho o2)
        | (go_at_call 143; refine (hR2.text _).mono ?_; clear hR2; rintro e w3 ⟨rfl, hR3, o3⟩; have hO3 := hO2.off o3 hbl; have ho3 := ho2.trans o3; clear hO2 ho2 o3; have BA : Below w3.heap.size w3 (w3.alloc (.cells #[.int .i64 (nN qj 2), .string (tT (sN qj 2) 224)] 191)) := (Below.refl _ _).alloc (Nat.le_refl _) _; have hO4 := hO3.below BA; have hz4 : w.heap.size ≤ (w3.alloc (.cells #[.int .i64 (nN qj 2), .string (tT (sN qj 2) 224)] 191)).heap.size := Nat.le_trans ho3.size BA.size)
        | (refine wpList_append_own' two_im (B := w.heap.size) rfl (.tmp 14) (.tmp 18) rfl rfl HL.out hO4 hz4 rfl (m := 1) (news := [(.int .i64 (nN qj 2), .string (tT (sN qj 2) 224))]) rfl (fun e => by cases e) (cs_one w3 (.int .i64 (nN qj 2), .string (tT (sN qj 2) 224)) 191) (fun p hp => by simp at hp; subst hp; exact ⟨rfl, rfl⟩) (by omega) ?_; intro a5 c5 w5 hO5 B5))
      go_roundw
      case rel =>
        refine ⟨j + 1, a5, c5, by omega, by go_num, rfl, ?_, ?_, ?_⟩
        · rw [HS.out, HF.out]; exact hO5
        · rw [HQ.out]; exact (hR3.below BA).bel B5 hbl
        · exact (ho3.trans (Pk.Off.of_below BA)).bel B5
      case measure => simp [intOf]; omega
    · have hjn : j = n := by omega
      subst hjn
      have hi2 : ¬ (j : Int) < (j : Int) := by omega
      go_wp2
      go_ret
      refine ⟨⟨_, rfl, ?_⟩, hR, ho⟩
      have := hO.fr
      rw [encI_length, rdImL_length] at this
      exact this
set_option maxHeartbeats 1000000 in
theorem readTable_any {w : World} {b : Nat} {q : Lf} (h : RdS w b q) : Calls Tryz.prog 116 #[.pointer (some ⟨b, 0, none⟩)] w fun e w' => (∃ v, e = .returned v ∧ Fr w' v (encT (rdTbL (sN q 1) (nN q 1).toNat)) w.heap.size) ∧ RdS w' b (rdTbS (sN q 1) (nN q 1).toNat) ∧ Pk.Off b w w' := by
  obtain ⟨n, hn⟩ : ∃ n : Nat, nN q 1 = n := ⟨(nN q 1).toNat, by have := nN_nonneg q 1; omega⟩
  have hn2 : n ≤ 255 := by have := nN_one q; omega
  have hbl := h.lt
  have C0 : Hid (Calls Tryz.prog 70 #[.pointer (some ⟨b, 0, none⟩), .int .i64 1] w fun r w' => r = .returned (.int .i64 (n : Int)) ∧ RdS w' b (sN q 1) ∧ Pk.Off b w w') := by rw [← hn]; exact h.num 1
  have HN : Hid ((nN q 1).toNat = n) := (by rw [hn]; rfl : (nN q 1).toNat = n)
  rw [HN.out]
  generalize sN q 1 = q1 at *
  clear hn h HN
  go_enter Tryz.func116, Tryz.ntmps116
  go_wp2_with (go_at_call 70; refine C0.out.mono ?_; clear C0; rintro e w1 ⟨rfl, h1, o1⟩)
  go_loopw [3, 7] (fun pv ix wr => ∃ (j : Nat) (a : Option Addr) (c : Nat), j ≤ n ∧ ix = .int .i64 (j : Int) ∧ pv = .slice a j c ∧ Own 197 w.heap.size wr a c (encT (rdTbL q1 j)) ∧ RdS wr b (rdTbS q1 j) ∧ Pk.Off b w wr) (fun _ ix _ => n - (intOf ix).toNat)
  case atStart => exact ⟨0, none, 0, Nat.zero_le _, rfl, rfl, Own.nil _ _ _, h1, o1⟩
  case round =>
    clear h1 o1
    obtain ⟨j, a, c, hj, rfl, rfl, hO, hR, ho⟩ := hrel
    by_cases hlt : j < n
    · have hi2 : (j : Int) < (n : Int) := by omega
      have hln : j = (encT (rdTbL q1 j)).length := by rw [encT_length, rdTbL_length]
      have HS : Hid (encT (rdTbL q1 (j + 1)) = encT (rdTbL q1 j) ++ [(.int .i64 (rdTbF q1 j).1, .int .i64 (rdTbF q1 j).2)]) := (by rw [rdTbL_succ, encT_append]; rfl : encT (rdTbL q1 (j + 1)) = encT (rdTbL q1 j) ++ [(.int .i64 (rdTbF q1 j).1, .int .i64 (rdTbF q1 j).2)])
      have HQ : Hid (rdTbS q1 (j + 1) = sN (sN (rdTbS q1 j) 6) 6) := (rfl : rdTbS q1 (j + 1) = sN (sN (rdTbS q1 j) 6) 6)
      have HF : Hid (rdTbF q1 j = (nN (rdTbS q1 j) 6, nN (sN (rdTbS q1 j) 6) 6)) := (rfl : rdTbF q1 j = (nN (rdTbS q1 j) 6, nN (sN (rdTbS q1 j) 6) 6))
      have HL : Hid (j = (encT (rdTbL q1 j)).length) := hln
      clear hln
      generalize encT (rdTbL q1 j) = xs at *
      generalize rdTbS q1 j = qj at *
      have hBz := ho.size
      have hbr := hR.lt
      have CP : Hid (∀ w2, w2 = (wr.alloc (.cells #[.int .i64 0, .int .i64 0] 197)).alloc (.cells #[.pointer (some ⟨wr.heap.size, 0, none⟩), .pointer (some ⟨wr.heap.size, 1, none⟩)] 166) → Calls Tryz.prog 114 #[.pointer (some ⟨b, 0, none⟩), .slice (some ⟨wr.heap.size + 1, 0, none⟩) 2 2] w2 fun e w' => e = .returned (.tuple #[]) ∧ RdS w' b (sN (sN qj 6) 6) ∧ Blk w' wr.heap.size #[.int .i64 (nN qj 6), .int .i64 (nN (sN qj 6) 6)] 197 ∧ Pk.Off b wr w') := fun w2 h2 => by
        have b1 : Below wr.heap.size wr (wr.alloc (.cells #[.int .i64 0, .int .i64 0] 197)) := (Below.refl _ _).alloc (Nat.le_refl _) _
        have b2 : Below (wr.alloc (.cells #[.int .i64 0, .int .i64 0] 197)).heap.size (wr.alloc (.cells #[.int .i64 0, .int .i64 0] 197)) w2 := by subst h2; exact (Below.refl _ _).alloc (Nat.le_refl _) _
        have hz : (wr.alloc (.cells #[.int .i64 0, .int .i64 0] 197)).heap.size = wr.heap.size + 1 := by simp
        have bl : Blk w2 wr.heap.size #[.int .i64 0, .int .i64 0] 197 := (Blk.mk (MapKept.heap_alloc wr _).1).below b2
        have gp : Blk w2 (wr.heap.size + 1) #[.pointer (some ⟨wr.heap.size, 0, none⟩), .pointer (some ⟨wr.heap.size, 1, none⟩)] 166 := by
          have := (MapKept.heap_alloc (wr.alloc (.cells #[.int .i64 0, .int .i64 0] 197)) (.cells #[.pointer (some ⟨wr.heap.size, 0, none⟩), .pointer (some ⟨wr.heap.size, 1, none⟩)] 166)).1
          rw [hz] at this
          subst h2
          exact ⟨this⟩
        refine (readPlaces_2 (k0 := 0) (k1 := 1) (C := #[.int .i64 0, .int .i64 0]) ⟨(hR.below b1).below b2, gp, bl, Off2.refl _ _ _, by omega, by omega, by omega⟩ (by simp) (by simp)).mono ?_
        rintro e w3 ⟨he, h3, g3, o3⟩
        have bb := thn b1 b2
        have z2 := bb.size
        refine ⟨he, h3, g3, ⟨o3.os.trans bb.os, o3.tape.trans bb.tape, o3.output.trans bb.output, Nat.le_trans z2 o3.size, fun k hk hkb => (o3.block k (by omega) hkb (by omega)).trans (bb.block k hk)⟩⟩
      go_wp2_with (first
        | (go_at_call 114; refine (CP.out _ rfl).mono ?_; clear CP; rintro e w3 ⟨rfl, hR3, bl3, o3⟩; have hO3 := hO.off o3 hbl; have ho3 := ho.trans o3; clear hO; have BA : Below w3.heap.size w3 (w3.alloc (.cells #[.int .i64 (nN qj 6), .int .i64 (nN (sN qj 6) 6)] 197)) := (Below.refl _ _).alloc (Nat.le_refl _) _; have hO4 := hO3.below BA; have hz4 : w.heap.size ≤ (w3.alloc (.cells #[.int .i64 (nN qj 6), .int .i64 (nN (sN qj 6) 6)] 197)).heap.size := Nat.le_trans ho3.size BA.size; have m0 := bl3.cell 0; have m1 := bl3.cell 1; simp only [List.getElem?_toArray, List.getElem?_cons_zero, List.getElem?_cons_succ] at m0 m1)
        | (refine wpList_append_own' two_tb (B := w.heap.size) rfl (.tmp 14) (.tmp 16) rfl rfl HL.out hO4 hz4 rfl (m := 1) (news := [(.int .i64 (nN qj 6), .int .i64 (nN (sN qj 6) 6))]) rfl (fun e => by cases e) (cs_one w3 (.int .i64 (nN qj 6), .int .i64 (nN (sN qj 6) 6)) 197) (fun p hp => by simp at hp; subst hp; exact ⟨rfl, rfl⟩) (by omega) ?_; intro a5 c5 w5 hO5 B5))
      go_roundw
      case rel =>
        refine ⟨j + 1, a5, c5, by omega, by go_num, rfl, ?_, ?_, ?_⟩
        · rw [HS.out, HF.out]; exact hO5
        · rw [HQ.out]; exact (hR3.below BA).bel B5 hbl
        · exact (ho3.trans (Pk.Off.of_below BA)).bel B5
      case measure => simp [intOf]; omega
    · have hjn : j = n := by omega
      subst hjn
      have hi2 : ¬ (j : Int) < (j : Int) := by omega
      go_wp2
      go_ret
      refine ⟨⟨_, rfl, ?_⟩, hR, ho⟩
      have := hO.fr
      rw [encT_length, rdTbL_length] at this
      exact this
end Go.Proofs.YtgodjnbbocnckaaGreat

namespace Go.Proofs.YtgodjnbbocnckaaGreat
open Go.RowKit
set_option linter.unusedVariables false
set_option linter.unusedSimpArgs false
set_option maxRecDepth 100000

/-- The writer in block b has laid A.1, or bears the error A.2. -/
structure WrS (w : World) (b : Nat) (A : ByteArray × Int) (j : Nat) : Prop where
  wr : Pk.WrIs w b A.1 A.2
  sz : A.1.size ≤ j
section
variable {w w' : World} {b j : Nat} {A : ByteArray × Int}
theorem WrS.lt (h : WrS w b A j) : b < w.heap.size := h.wr.lt
theorem WrS.below (h : WrS w b A j) (hb : Below w.heap.size w w') : WrS w' b A j := ⟨h.wr.below hb, h.sz⟩
theorem WrS.num (h : WrS w b A j) (hj : j ≤ 10000000000000) (n k : Int) : Calls Tryz.prog 147 #[.pointer (some ⟨b, 0, none⟩), .int .i64 n, .int .i64 k] w fun r w' => r = .returned (.tuple #[]) ∧ WrS w' b (stepW A n k) (j + 6) ∧ Pk.Off b w w' := by
  have hz := h.sz
  refine (Pk.WNum_any b A.1 A.2 n k w h.wr (by omega)).mono ?_
  rintro e w'' ⟨he, hw, ho⟩
  exact ⟨he, ⟨hw, by have := stepW_size A n k; omega⟩, ho⟩
theorem WrS.text (h : WrS w b A j) (hj : j ≤ 10000000000000) (t : ByteArray) (ht : t.size ≤ 140737488351232) : Calls Tryz.prog 165 #[.pointer (some ⟨b, 0, none⟩), .string t] w fun r w' => r = .returned (.tuple #[]) ∧ WrS w' b (stepT A t) (j + 65537) ∧ Pk.Off b w w' := by
  have hz := h.sz
  refine (Pk.WText_any b A.1 A.2 t w h.wr (by omega) ht).mono ?_
  rintro e w'' ⟨he, hw, ho⟩
  exact ⟨he, ⟨hw, by have := stepT_size A t; omega⟩, ho⟩
theorem keep_new {o : Obj} (ho : Pk.Off b (w.alloc o) w') (hb : b < w.heap.size) : w'.heap[w.heap.size]? = some o := by
  have := ho.block w.heap.size (by simp) (by omega)
  rw [this]
  exact (MapKept.heap_alloc w o).1
def ints (ps : List Int) : Array Value := (ps.map fun p => .int .i64 p).toArray
theorem ints_at {g : Nat} {ps : List Int} (h : w.heap[g]? = some (.cells (ints ps) 3)) {i : Nat} (hi : i < ps.length) : w.cell? ⟨g, i, none⟩ = some (.int .i64 ps[i]) := by
  rw [Joins.cell_of_block h]
  simp [ints, hi]
set_option maxHeartbeats 400000 in
theorem layPlaces_any (h : WrS w b A j) (hj : j ≤ 1000000000000) {g n : Nat} (ps : List Int) (hg : w.heap[g]? = some (.cells (ints ps) 3)) (hgb : g ≠ b) (hn : ps.length = n) (h3 : n ≤ 3) :
    Calls Tryz.prog 149 #[.pointer (some ⟨b, 0, none⟩), .slice (some ⟨g, 0, none⟩) n n] w fun r w' => r = .returned (.tuple #[]) ∧ WrS w' b (layP ps A) (j + 6 * n) ∧ Pk.Off b w w' := by
  have hgl : g < w.heap.size := (Array.getElem?_eq_some_iff.1 hg).1
  go_enter Tryz.func149, Tryz.ntmps149
  go_wp2
  go_loopw [8] (fun ix wr => ∃ i : Nat, i ≤ n ∧ ix = .int .i64 (i : Int) ∧ WrS wr b (layP (ps.take i) A) (j + 6 * i) ∧ Pk.Off b w wr) (fun ix _ => n - (intOf ix).toNat)
  case atStart => exact ⟨0, Nat.zero_le _, rfl, h, Pk.Off.refl _ _⟩
  case round =>
    obtain ⟨i, hi, rfl, hw, ho⟩ := hrel
    by_cases hlt : i < n
    · have hc := ints_at ((ho.block g hgl hgb).trans hg) (i := i) (by omega)
      have hs : layP (ps.take (i + 1)) A = stepW (layP (ps.take i) A) (ps[i]'(by omega)) 6 := by
        rw [List.take_succ_eq_append_getElem (by omega), layP_snoc]
      have HS : Hid _ := hs
      have hi2 : (i : Int) < (n : Int) := by omega
      have HO : Hid (Pk.Off b w wr) := ho
      clear hs h hg ho
      generalize ps[i]'(by omega) = p at *
      go_wp2_with (go_at_call 147; refine (hw.num (by omega) _ _).mono ?_; rintro e w1 ⟨rfl, h1, o1⟩)
      go_roundw
      case rel =>
        refine ⟨i + 1, by omega, by go_num, ?_, HO.out.trans o1⟩
        rw [HS.out]
        exact h1
      case measure => simp [intOf]; omega
    · have hin : i = n := by omega
      subst hin
      have hi2 : ¬ (i : Int) < (i : Int) := by omega
      go_wp2
      go_end0
      rw [List.take_of_length_le (by omega)] at hw
      exact ⟨rfl, hw, ho⟩
set_option maxHeartbeats 400000 in
theorem layImages_any (h : WrS w b A j) (hj : j ≤ 100000000000) {a : Option Addr} {n c : Nat} (l : List Im) (hl : l.length = n) (hn : n ≤ 1000) (hcs : Cs w a (encI l)) (hne : l ≠ [] → ∀ b' off, a = some ⟨b', off, none⟩ → b' ≠ b) (ht : ∀ p ∈ l, p.2.size ≤ 1000) :
    Calls Tryz.prog 148 #[.pointer (some ⟨b, 0, none⟩), .slice a n c] w fun r w' => r = .returned (.tuple #[]) ∧ WrS w' b (layI l (stepW A n 1)) (j + 6 + 65543 * n) ∧ Pk.Off b w w' := by
  go_enter Tryz.func148, Tryz.ntmps148
  go_wp2_with (go_at_call 147; refine (h.num (by omega) _ _).mono ?_; rintro e w1 ⟨rfl, h1, o1⟩)
  go_loopw [12] (fun ix wr => ∃ i : Nat, i ≤ n ∧ ix = .int .i64 (i : Int) ∧ WrS wr b (layI (l.take i) (stepW A n 1)) (j + 6 + 65543 * i) ∧ Pk.Off b w wr) (fun ix _ => n - (intOf ix).toNat)
  case atStart => exact ⟨0, Nat.zero_le _, rfl, h1, o1⟩
  case round =>
    obtain ⟨i, hi, rfl, hw, ho⟩ := hrel
    by_cases hlt : i < n
    · obtain ⟨b', off, rfl, hb', HC⟩ := csI_at (hcs.off ho (hne (List.length_pos_iff.1 (by omega)))) (i := i) (by omega)
      obtain ⟨q0, q1⟩ := HC wr (Below.refl _ _)
      have hs : layI (l.take (i + 1)) (stepW A n 1) = stepT (stepW (layI (l.take i) (stepW A n 1)) (l[i]'(by omega)).1 2) (l[i]'(by omega)).2 := by
        rw [List.take_succ_eq_append_getElem (by omega), layI_snoc]
      have hz1 : (l[i]'(by omega)).2.size ≤ 140737488351232 := Nat.le_trans (ht (l[i]'(by omega)) (List.getElem_mem _)) (by omega)
      have HS : Hid _ := hs
      have hi2 : (i : Int) < (n : Int) := by omega
      have HO : Hid (Pk.Off b w wr) := ho
      have hbl := hw.lt
      clear hs h ho HC h1 o1 hcs ht
      generalize l[i]'(by omega) = p at *
      obtain ⟨p, t⟩ := p
      dsimp only at q0 q1 hz1 HS
      go_wp2_with (first
        | (go_at_call 147; refine ((hw.below ((Below.refl _ _).alloc (Nat.le_refl _) _)).num (by omega) _ _).mono ?_; rintro e w2 ⟨rfl, h2, o2⟩; have k1 := Joins.cell_of_block (keep_new o2 hbl) 1; have HO2 : Hid (Pk.Off b w w2) := (HO.out.alloc _).trans o2)
        | (go_at_call 165; refine (h2.text (by omega) _ hz1).mono ?_; rintro e w3 ⟨rfl, h3, o3⟩))
      go_roundw
      case rel =>
        refine ⟨i + 1, by omega, by go_num, ?_, HO2.out.trans o3⟩
        rw [HS.out]
        exact ⟨h3.wr, Nat.le_trans h3.sz (by omega)⟩
      case measure => simp [intOf]; omega
    · have hin : i = n := by omega
      subst hin
      have hi2 : ¬ (i : Int) < (i : Int) := by omega
      go_wp2
      go_end0
      rw [List.take_of_length_le (by omega)] at hw
      exact ⟨rfl, hw, ho⟩
set_option maxHeartbeats 400000 in
theorem layTable_any (h : WrS w b A j) (hj : j ≤ 100000000000) {a : Option Addr} {n c : Nat} (l : List Tb) (hl : l.length = n) (hn : n ≤ 1000) (hcs : Cs w a (encT l)) (hne : l ≠ [] → ∀ b' off, a = some ⟨b', off, none⟩ → b' ≠ b) :
    Calls Tryz.prog 151 #[.pointer (some ⟨b, 0, none⟩), .slice a n c] w fun r w' => r = .returned (.tuple #[]) ∧ WrS w' b (layB l (stepW A n 1)) (j + 6 + 12 * n) ∧ Pk.Off b w w' := by
  go_enter Tryz.func151, Tryz.ntmps151
  go_wp2_with (go_at_call 147; refine (h.num (by omega) _ _).mono ?_; rintro e w1 ⟨rfl, h1, o1⟩)
  go_loopw [12] (fun ix wr => ∃ i : Nat, i ≤ n ∧ ix = .int .i64 (i : Int) ∧ WrS wr b (layB (l.take i) (stepW A n 1)) (j + 6 + 12 * i) ∧ Pk.Off b w wr) (fun ix _ => n - (intOf ix).toNat)
  case atStart => exact ⟨0, Nat.zero_le _, rfl, h1, o1⟩
  case round =>
    obtain ⟨i, hi, rfl, hw, ho⟩ := hrel
    by_cases hlt : i < n
    · obtain ⟨b', off, rfl, hb', HC⟩ := csT_at (hcs.off ho (hne (List.length_pos_iff.1 (by omega)))) (i := i) (by omega)
      obtain ⟨q0, q1⟩ := HC wr (Below.refl _ _)
      have hs : layB (l.take (i + 1)) (stepW A n 1) = layP [(l[i]'(by omega)).1, (l[i]'(by omega)).2] (layB (l.take i) (stepW A n 1)) := by
        rw [List.take_succ_eq_append_getElem (by omega), layB_snoc]; rfl
      have HS : Hid _ := hs
      have hi2 : (i : Int) < (n : Int) := by omega
      have HO : Hid (Pk.Off b w wr) := ho
      have hbl := hw.lt
      clear hs h ho HC h1 o1 hcs
      generalize l[i]'(by omega) = p at *
      obtain ⟨p, t⟩ := p
      dsimp only at q0 q1 HS
      have CP : Hid (∀ w2, w2 = (wr.alloc (.cells #[.int .i64 p, .int .i64 t] 197)).alloc (.cells #[.int .i64 p, .int .i64 t] 3) → Calls Tryz.prog 149 #[.pointer (some ⟨b, 0, none⟩), .slice (some ⟨wr.heap.size + 1, 0, none⟩) 2 2] w2 fun r w' => r = .returned (.tuple #[]) ∧ WrS w' b (layP [p, t] (layB (l.take i) (stepW A n 1))) (j + 6 + 12 * i + 12) ∧ Pk.Off b wr w') := fun w2 h2 => by
        have hb2 : Below wr.heap.size wr w2 := by subst h2; exact ((Below.refl _ _).alloc (Nat.le_refl _) _).alloc (by simp) _
        have hg : w2.heap[wr.heap.size + 1]? = some (.cells (ints [p, t]) 3) := by
          subst h2
          have := (MapKept.heap_alloc (wr.alloc (.cells #[.int .i64 p, .int .i64 t] 197)) (.cells #[.int .i64 p, .int .i64 t] 3)).1
          simpa [ints] using this
        refine (layPlaces_any (n := 2) (hw.below hb2) (by omega) [p, t] hg (by omega) rfl (by omega)).mono ?_
        rintro e w3 ⟨he, h3, o3⟩
        exact ⟨he, h3, (Pk.Off.of_below hb2).trans o3⟩
      go_wp2_with (go_at_call 149; refine (CP.out _ rfl).mono ?_; rintro e w3 ⟨rfl, h3, o3⟩)
      go_roundw
      case rel =>
        refine ⟨i + 1, by omega, by go_num, ?_, HO.out.trans o3⟩
        rw [HS.out]
        exact ⟨h3.wr, Nat.le_trans h3.sz (by omega)⟩
      case measure => simp [intOf]; omega
    · have hin : i = n := by omega
      subst hin
      have hi2 : ¬ (i : Int) < (i : Int) := by omega
      go_wp2
      go_end0
      rw [List.take_of_length_le (by omega)] at hw
      exact ⟨rfl, hw, ho⟩
end
end Go.Proofs.YtgodjnbbocnckaaGreat

namespace Go.Proofs.YtgodjnbbocnckaaGreat
open Go.RowKit
set_option linter.unusedVariables false
set_option linter.unusedSimpArgs false
set_option maxRecDepth 100000

/-- A record in block b0 beside a writer in block b. -/
structure LdS (w wx : World) (b0 b : Nat) (s : Sc) (I T : Value) (A : ByteArray × Int) (j : Nat) : Prop where
  rc : RcAt wx b0 s I T
  wS : WrS wx b A j
  ne : b0 ≠ b
  off : Pk.Off b w wx
section
variable {w wr wq : World} {b0 b j j' : Nat} {s : Sc} {I T : Value} {A A' : ByteArray × Int}
theorem LdS.step (h : LdS w wr b0 b s I T A j) (h' : WrS wq b A' j') (o : Pk.Off b wr wq) : LdS w wq b0 b s I T A' j' := ⟨h.rc.off o h.ne, h', h.ne, h.off.trans o⟩
theorem LdS.below (h : LdS w wr b0 b s I T A j) (hb : Below wr.heap.size wr wq) : LdS w wq b0 b s I T A j := ⟨h.rc.below hb, h.wS.below hb, h.ne, h.off.trans (Pk.Off.of_below hb)⟩
theorem LdS.num (h : LdS w wr b0 b s I T A j) (hj : j ≤ 1000000000000) (n k : Int) : Calls Tryz.prog 147 #[.pointer (some ⟨b, 0, none⟩), .int .i64 n, .int .i64 k] wr fun r w' => r = .returned (.tuple #[]) ∧ LdS w w' b0 b s I T (stepW A n k) (j + 6) :=
  (h.wS.num (by omega) n k).mono fun e w' ⟨he, h1, o1⟩ => ⟨he, h.step h1 o1⟩
theorem LdS.text (h : LdS w wr b0 b s I T A j) (hj : j ≤ 1000000000000) (t : ByteArray) (ht : t.size ≤ 140737488351232) : Calls Tryz.prog 165 #[.pointer (some ⟨b, 0, none⟩), .string t] wr fun r w' => r = .returned (.tuple #[]) ∧ LdS w w' b0 b s I T (stepT A t) (j + 65537) :=
  (h.wS.text (by omega) t ht).mono fun e w' ⟨he, h1, o1⟩ => ⟨he, h.step h1 o1⟩
/-- The same, and the pointers to the values in block g. -/
structure LvS (w wx : World) (b0 b : Nat) (s : Sc) (I T : Value) (A : ByteArray × Int) (j g : Nat) (P : Array Value) : Prop where
  ld : LdS w wx b0 b s I T A j
  pg : wx.heap[g]? = some (.cells P 195)
  ne : g ≠ b
theorem LvS.text {g : Nat} {P : Array Value} (h : LvS w wr b0 b s I T A j g P) (hj : j ≤ 1000000000000) (t : ByteArray) (ht : t.size ≤ 140737488351232) : Calls Tryz.prog 165 #[.pointer (some ⟨b, 0, none⟩), .string t] wr fun r w' => r = .returned (.tuple #[]) ∧ LvS w w' b0 b s I T (stepT A t) (j + 65537) g P :=
  (h.ld.wS.text (by omega) t ht).mono fun e w' ⟨he, h1, o1⟩ => ⟨he, h.ld.step h1 o1, (o1.block g (Array.getElem?_eq_some_iff.1 h.pg).1 h.ne).trans h.pg, h.ne⟩
end
section
variable {w : World} {b j : Nat} {s : Sc} {I T : Value} {A : ByteArray × Int}
set_option maxHeartbeats 1000000 in
theorem layChange_3 (h : WrS w b A j) (hj : j ≤ 100000000000) (ha : actOf s = 3) (hk : s.ky.size ≤ 1000) (ho : s.ol.size ≤ 1000) (hw : s.nw.size ≤ 1000) :
    Calls Tryz.prog 150 #[.pointer (some ⟨b, 0, none⟩), .agg (s.A I T)] w fun r w' => r = .returned (.tuple #[]) ∧ WrS w' b (stepT (stepT (stepW A s.pg 2) s.ky) s.nw) (j + 300000) ∧ Pk.Off b w w' := by
  have hk' : s.ky.size ≤ 140737488351232 := by omega
  have ho' : s.ol.size ≤ 140737488351232 := by omega
  have hw' : s.nw.size ≤ 140737488351232 := by omega
  have hbl := h.lt
  have CV : Hid (∀ wr A' j', LdS w wr w.heap.size b s I T A' j' → Calls Tryz.prog 144 #[.pointer (some ⟨w.heap.size, 0, none⟩)] wr fun e w' => ∃ g, e = .returned (.slice (some ⟨g, 0, none⟩) 1 1) ∧ LvS w w' w.heap.size b s I T A' j' g #[.pointer (some ⟨w.heap.size, 7, none⟩)]) := fun wr A' j' H => by
    refine (values_3 H.rc ha).mono ?_
    rintro e w' ⟨he, hw'⟩
    refine ⟨wr.heap.size, he, ?_⟩
    subst hw'
    refine ⟨H.below ((Below.refl _ _).alloc (Nat.le_refl _) _), (MapKept.heap_alloc wr _).1, by have := H.wS.lt; omega⟩
  clear hk ho hw
  go_enter Tryz.func150, Tryz.ntmps150
  go_wp2_with (first
    | (refine wpList_box_rc (s := s) (I := I) (T := T) _ rfl _ rfl rfl ?_; intro w0 b0 N0; obtain rfl := N0.eq; have L : LdS w w0 w.heap.size b s I T A j := ⟨N0.rc, h.below N0.below, (fun e => absurd e (by omega)), Pk.Off.of_below N0.below⟩; clear N0; have k3 := L.rc.c3; have k5 := L.rc.c5)
    | (go_at_call 147; refine (L.num (by omega) _ _).mono ?_; clear L; rintro e w2 ⟨rfl, L⟩; have k5 := L.rc.c5)
    | (go_at_call 165; refine (L.text (by omega) _ hk').mono ?_; clear L; rintro e w3 ⟨rfl, L⟩)
    | (go_at_call 144; refine (CV.out _ _ _ L).mono ?_; clear L; rintro e w4 ⟨g, rfl, LV⟩; have f7 := LV.ld.rc.c7; have g0 := Joins.cell_of_block LV.pg 0; simp only [List.getElem?_toArray, List.getElem?_cons_zero, List.getElem?_cons_succ] at g0))
  refine wp_loop_rounds 2 ?_
  rw [rounds_succ]
  go_wp2_with (go_at_call 165; refine (LV.text (by omega) _ (by assumption)).mono ?_; clear LV; rintro e w4 ⟨rfl, LV⟩; have f7 := LV.ld.rc.c7; have g0 := Joins.cell_of_block LV.pg 0; simp only [List.getElem?_toArray, List.getElem?_cons_zero, List.getElem?_cons_succ] at g0)
  rw [rounds_succ]
  go_wp2
  go_end0
  exact ⟨rfl, ⟨LV.ld.wS.wr, Nat.le_trans LV.ld.wS.sz (by omega)⟩, LV.ld.off⟩
set_option maxHeartbeats 1000000 in
theorem layChange_4 (h : WrS w b A j) (hj : j ≤ 100000000000) (ha : actOf s = 4) (hk : s.ky.size ≤ 1000) (ho : s.ol.size ≤ 1000) (hw : s.nw.size ≤ 1000) :
    Calls Tryz.prog 150 #[.pointer (some ⟨b, 0, none⟩), .agg (s.A I T)] w fun r w' => r = .returned (.tuple #[]) ∧ WrS w' b (stepT (stepT (stepW A s.pg 2) s.ky) s.ol) (j + 300000) ∧ Pk.Off b w w' := by
  have hk' : s.ky.size ≤ 140737488351232 := by omega
  have ho' : s.ol.size ≤ 140737488351232 := by omega
  have hw' : s.nw.size ≤ 140737488351232 := by omega
  have hbl := h.lt
  have CV : Hid (∀ wr A' j', LdS w wr w.heap.size b s I T A' j' → Calls Tryz.prog 144 #[.pointer (some ⟨w.heap.size, 0, none⟩)] wr fun e w' => ∃ g, e = .returned (.slice (some ⟨g, 0, none⟩) 1 1) ∧ LvS w w' w.heap.size b s I T A' j' g #[.pointer (some ⟨w.heap.size, 6, none⟩)]) := fun wr A' j' H => by
    refine (values_4 H.rc ha).mono ?_
    rintro e w' ⟨he, hw'⟩
    refine ⟨wr.heap.size, he, ?_⟩
    subst hw'
    refine ⟨H.below ((Below.refl _ _).alloc (Nat.le_refl _) _), (MapKept.heap_alloc wr _).1, by have := H.wS.lt; omega⟩
  clear hk ho hw
  go_enter Tryz.func150, Tryz.ntmps150
  go_wp2_with (first
    | (refine wpList_box_rc (s := s) (I := I) (T := T) _ rfl _ rfl rfl ?_; intro w0 b0 N0; obtain rfl := N0.eq; have L : LdS w w0 w.heap.size b s I T A j := ⟨N0.rc, h.below N0.below, (fun e => absurd e (by omega)), Pk.Off.of_below N0.below⟩; clear N0; have k3 := L.rc.c3; have k5 := L.rc.c5)
    | (go_at_call 147; refine (L.num (by omega) _ _).mono ?_; clear L; rintro e w2 ⟨rfl, L⟩; have k5 := L.rc.c5)
    | (go_at_call 165; refine (L.text (by omega) _ hk').mono ?_; clear L; rintro e w3 ⟨rfl, L⟩)
    | (go_at_call 144; refine (CV.out _ _ _ L).mono ?_; clear L; rintro e w4 ⟨g, rfl, LV⟩; have f6 := LV.ld.rc.c6; have g0 := Joins.cell_of_block LV.pg 0; simp only [List.getElem?_toArray, List.getElem?_cons_zero, List.getElem?_cons_succ] at g0))
  refine wp_loop_rounds 2 ?_
  rw [rounds_succ]
  go_wp2_with (go_at_call 165; refine (LV.text (by omega) _ (by assumption)).mono ?_; clear LV; rintro e w4 ⟨rfl, LV⟩; have f6 := LV.ld.rc.c6; have g0 := Joins.cell_of_block LV.pg 0; simp only [List.getElem?_toArray, List.getElem?_cons_zero, List.getElem?_cons_succ] at g0)
  rw [rounds_succ]
  go_wp2
  go_end0
  exact ⟨rfl, ⟨LV.ld.wS.wr, Nat.le_trans LV.ld.wS.sz (by omega)⟩, LV.ld.off⟩
set_option maxHeartbeats 1000000 in
theorem layChange_o (h : WrS w b A j) (hj : j ≤ 100000000000) (h3 : actOf s ≠ 3) (h4 : actOf s ≠ 4) (hk : s.ky.size ≤ 1000) (ho : s.ol.size ≤ 1000) (hw : s.nw.size ≤ 1000) :
    Calls Tryz.prog 150 #[.pointer (some ⟨b, 0, none⟩), .agg (s.A I T)] w fun r w' => r = .returned (.tuple #[]) ∧ WrS w' b (stepT (stepT (stepT (stepW A s.pg 2) s.ky) s.ol) s.nw) (j + 300000) ∧ Pk.Off b w w' := by
  have hk' : s.ky.size ≤ 140737488351232 := by omega
  have ho' : s.ol.size ≤ 140737488351232 := by omega
  have hw' : s.nw.size ≤ 140737488351232 := by omega
  have hbl := h.lt
  have CV : Hid (∀ wr A' j', LdS w wr w.heap.size b s I T A' j' → Calls Tryz.prog 144 #[.pointer (some ⟨w.heap.size, 0, none⟩)] wr fun e w' => ∃ g, e = .returned (.slice (some ⟨g, 0, none⟩) 2 2) ∧ LvS w w' w.heap.size b s I T A' j' g #[.pointer (some ⟨w.heap.size, 6, none⟩), .pointer (some ⟨w.heap.size, 7, none⟩)]) := fun wr A' j' H => by
    refine (values_o H.rc h3 h4).mono ?_
    rintro e w' ⟨he, hw'⟩
    refine ⟨wr.heap.size, he, ?_⟩
    subst hw'
    refine ⟨H.below (((Below.refl _ _).drew).alloc (Nat.le_refl _) _), (MapKept.heap_alloc wr.drew _).1, by have := H.wS.lt; omega⟩
  clear hk ho hw
  go_enter Tryz.func150, Tryz.ntmps150
  go_wp2_with (first
    | (refine wpList_box_rc (s := s) (I := I) (T := T) _ rfl _ rfl rfl ?_; intro w0 b0 N0; obtain rfl := N0.eq; have L : LdS w w0 w.heap.size b s I T A j := ⟨N0.rc, h.below N0.below, (fun e => absurd e (by omega)), Pk.Off.of_below N0.below⟩; clear N0; have k3 := L.rc.c3; have k5 := L.rc.c5)
    | (go_at_call 147; refine (L.num (by omega) _ _).mono ?_; clear L; rintro e w2 ⟨rfl, L⟩; have k5 := L.rc.c5)
    | (go_at_call 165; refine (L.text (by omega) _ hk').mono ?_; clear L; rintro e w3 ⟨rfl, L⟩)
    | (go_at_call 144; refine (CV.out _ _ _ L).mono ?_; clear L; rintro e w4 ⟨g, rfl, LV⟩; have f6 := LV.ld.rc.c6; have f7 := LV.ld.rc.c7; have g0 := Joins.cell_of_block LV.pg 0; simp only [List.getElem?_toArray, List.getElem?_cons_zero, List.getElem?_cons_succ] at g0; have g1 := Joins.cell_of_block LV.pg 1; simp only [List.getElem?_toArray, List.getElem?_cons_zero, List.getElem?_cons_succ] at g1))
  refine wp_loop_rounds 3 ?_
  rw [rounds_succ]
  go_wp2_with (go_at_call 165; refine (LV.text (by omega) _ (by assumption)).mono ?_; clear LV; rintro e w4 ⟨rfl, LV⟩; have f6 := LV.ld.rc.c6; have f7 := LV.ld.rc.c7; have g0 := Joins.cell_of_block LV.pg 0; simp only [List.getElem?_toArray, List.getElem?_cons_zero, List.getElem?_cons_succ] at g0; have g1 := Joins.cell_of_block LV.pg 1; simp only [List.getElem?_toArray, List.getElem?_cons_zero, List.getElem?_cons_succ] at g1)
  rw [rounds_succ]
  go_wp2_with (go_at_call 165; refine (LV.text (by omega) _ (by assumption)).mono ?_; clear LV; rintro e w4 ⟨rfl, LV⟩; have f6 := LV.ld.rc.c6; have f7 := LV.ld.rc.c7; have g0 := Joins.cell_of_block LV.pg 0; simp only [List.getElem?_toArray, List.getElem?_cons_zero, List.getElem?_cons_succ] at g0; have g1 := Joins.cell_of_block LV.pg 1; simp only [List.getElem?_toArray, List.getElem?_cons_zero, List.getElem?_cons_succ] at g1)
  rw [rounds_succ]
  go_wp2
  go_end0
  exact ⟨rfl, ⟨LV.ld.wS.wr, Nat.le_trans LV.ld.wS.sz (by omega)⟩, LV.ld.off⟩
theorem layChange_any (h : WrS w b A j) (hj : j ≤ 100000000000) (hk : s.ky.size ≤ 1000) (ho : s.ol.size ≤ 1000) (hw : s.nw.size ≤ 1000) :
    Calls Tryz.prog 150 #[.pointer (some ⟨b, 0, none⟩), .agg (s.A I T)] w fun r w' => r = .returned (.tuple #[]) ∧ WrS w' b (layC s A) (j + 300000) ∧ Pk.Off b w w' := by
  unfold layC layV
  by_cases h3 : actOf s = 3
  · rw [if_pos h3]
    exact layChange_3 h hj h3 hk ho hw
  · by_cases h4 : actOf s = 4
    · rw [if_neg h3, if_pos h4]
      exact layChange_4 h hj h4 hk ho hw
    · rw [if_neg h3, if_neg h4]
      exact layChange_o h hj h3 h4 hk ho hw
end
end Go.Proofs.YtgodjnbbocnckaaGreat

namespace Go.Proofs.YtgodjnbbocnckaaGreat
open Go.RowKit
set_option linter.unusedVariables false
set_option linter.unusedSimpArgs false
set_option maxRecDepth 100000

theorem whole_take_succ {l : List Im} {i : Nat} (hi : i < l.length) : whole (l.take (i + 1)) = (whole (l.take i) && decide (l[i].2.size = 224)) := by
  rw [List.take_succ_eq_append_getElem hi]; simp only [whole, List.all_append, List.all_cons, List.all_nil, Bool.and_true]
theorem whole_false {l : List Im} {i : Nat} (hi : i < l.length) (h : ¬ l[i].2.size = 224) : whole l = false := by
  unfold whole
  rw [List.all_eq_false]
  exact ⟨l[i], List.getElem_mem hi, by simpa using h⟩
set_option maxHeartbeats 400000 in
theorem areWhole_any {w : World} {a : Option Addr} {n c : Nat} (l : List Im) (hl : l.length = n) (hn : n ≤ 1000) (hcs : Cs w a (encI l)) (ht : ∀ p ∈ l, p.2.size ≤ 9223372036854775807) :
    Calls Tryz.prog 163 #[.slice a n c] w fun r w' => r = .returned (.bool (whole l)) ∧ Below w.heap.size w w' := by
  go_enter Tryz.func163, Tryz.ntmps163
  go_wp2
  go_loopw [7] (fun ix wr => ∃ i : Nat, i ≤ n ∧ ix = .int .i64 (i : Int) ∧ whole (l.take i) = true ∧ Below w.heap.size w wr) (fun ix _ => n - (intOf ix).toNat)
  case atStart => exact ⟨0, Nat.zero_le _, rfl, rfl, Below.refl _ _⟩
  case round =>
    obtain ⟨i, hi, rfl, hw, hb⟩ := hrel
    by_cases hlt : i < n
    · obtain ⟨b', off, rfl, hb', HC⟩ := csI_at hcs (i := i) (by omega)
      obtain ⟨q0, q1⟩ := HC wr hb
      have hz := ht (l[i]'(by omega)) (List.getElem_mem _)
      have hi2 : (i : Int) < (n : Int) := by omega
      have HS : Hid _ := whole_take_succ (l := l) (i := i) (by omega)
      have HF : Hid _ := whole_false (l := l) (i := i) (by omega)
      have HW : Hid (whole (l.take i) = true) := hw
      have HB : Hid (Below w.heap.size w wr) := hb
      clear HC hcs ht hw hb
      generalize l[i]'(by omega) = p at *
      obtain ⟨p, t⟩ := p
      dsimp only at q0 q1 hz HS HF
      by_cases h2 : t.size = 224
      · have e : ((t.size : Int) != 224) = false := by simp [h2]
        go_wp2
        go_roundw
        case rel =>
          refine ⟨i + 1, by omega, by go_num, ?_, HB.out.alloc HB.out.size _⟩
          rw [HS.out, HW.out]; simp [h2]
        case measure => simp [intOf]; omega
      · have e : ((t.size : Int) != 224) = true := by simp; omega
        go_wp2
        go_ret
        rw [HF.out h2]
        exact ⟨rfl, HB.out.alloc HB.out.size _⟩
    · have hin : i = n := by omega
      subst hin
      have hi2 : ¬ (i : Int) < (i : Int) := by omega
      go_wp2
      go_ret
      rw [List.take_of_length_le (by omega)] at hw
      rw [hw]
      exact ⟨rfl, hb⟩
theorem tooLong_1 {w : World} {g : Nat} {t : ByteArray} (m : Int) (hg : w.cell? ⟨g, 0, none⟩ = some (.string t)) (ht : t.size ≤ 9223372036854775807) :
    Calls Tryz.prog 146 #[.int .i64 m, .slice (some ⟨g, 0, none⟩) 1 1] w fun r w' => r = .returned (.bool (decide (m < t.size))) ∧ w' = w := by
  by_cases h : m < (t.size : Int)
  · go_enter Tryz.func146, Tryz.ntmps146
    go_wp2
    refine wp_loop_rounds 2 ?_
    rw [rounds_succ]
    go_wp2
    go_ret
    exact ⟨by simp [h], rfl⟩
  · go_enter Tryz.func146, Tryz.ntmps146
    go_wp2
    refine wp_loop_rounds 2 ?_
    rw [rounds_succ]
    go_wp2
    rw [rounds_succ]
    go_wp2
    go_ret
    exact ⟨by simp [h], rfl⟩
theorem tooLong_2 {w : World} {g : Nat} {t u : ByteArray} (m : Int) (hg : w.cell? ⟨g, 0, none⟩ = some (.string t)) (hg' : w.cell? ⟨g, 1, none⟩ = some (.string u)) (ht : t.size ≤ 9223372036854775807) (hu : u.size ≤ 9223372036854775807) :
    Calls Tryz.prog 146 #[.int .i64 m, .slice (some ⟨g, 0, none⟩) 2 2] w fun r w' => r = .returned (.bool (decide (m < t.size) || decide (m < u.size))) ∧ w' = w := by
  by_cases h : m < (t.size : Int)
  · go_enter Tryz.func146, Tryz.ntmps146
    go_wp2
    refine wp_loop_rounds 3 ?_
    rw [rounds_succ]
    go_wp2
    go_ret
    exact ⟨by simp [h], rfl⟩
  · by_cases h2 : m < (u.size : Int)
    · go_enter Tryz.func146, Tryz.ntmps146
      go_wp2
      refine wp_loop_rounds 3 ?_
      rw [rounds_succ]
      go_wp2
      rw [rounds_succ]
      go_wp2
      go_ret
      exact ⟨by simp [h2], rfl⟩
    · go_enter Tryz.func146, Tryz.ntmps146
      go_wp2
      refine wp_loop_rounds 3 ?_
      rw [rounds_succ]
      go_wp2
      rw [rounds_succ]
      go_wp2
      rw [rounds_succ]
      go_wp2
      go_ret
      exact ⟨by simp [h, h2], rfl⟩
section
variable {w : World} {s : Sc} {T : Value} {a : Option Addr} {c : Nat} {l : List Im} {g : List Tb}
set_option maxHeartbeats 400000 in
theorem isFormed_any (hn : l.length ≤ 1000) (hcs : Cs w a (encI l)) (ht : ∀ p ∈ l, p.2.size ≤ 9223372036854775807) :
    Calls Tryz.prog 145 #[.agg (s.A (.slice a l.length c) T)] w fun r w' => r = .returned (.bool (formed ⟨s, l, g⟩)) ∧ Below w.heap.size w w' := by
  have CW : Hid (∀ w', Below w.heap.size w w' → Calls Tryz.prog 163 #[.slice a l.length c] w' fun r w'' => r = .returned (.bool (whole l)) ∧ Below w'.heap.size w' w'') := fun w' hb => areWhole_any l rfl hn (hcs.below hb) ht
  clear hcs ht
  unfold formed
  dsimp only
  by_cases h1 : s.kd = 1
  · rw [if_pos h1]
    have e1 : (s.kd == 1) = true := by simpa using h1
    by_cases hl : l.length = 1
    · have e2 : ((l.length : Int) == 1) = true := by simp [hl]
      have hd : decide (l.length = 1) = true := by simpa using hl
      rw [hd, Bool.true_and]
      generalize whole l = q at *
      clear h1 hl hd
      go_enter Tryz.func145, Tryz.ntmps145
      go_wp2_with (first
        | (refine wpList_box_rc (s := s) (I := _) (T := _) _ rfl _ rfl rfl ?_; intro w0 b0 N0; have k0 := N0.rc.c0; have k9 := N0.rc.c9)
        | (go_at_call 163; refine (CW.out _ N0.below).mono ?_; rintro e w1 ⟨rfl, b1⟩))
      go_ret
      exact ⟨rfl, thn N0.below b1⟩
    · have e2 : ((l.length : Int) == 1) = false := by simp; omega
      have hd : decide (l.length = 1) = false := by simpa using hl
      rw [hd, Bool.false_and]
      clear h1 hl hd
      go_enter Tryz.func145, Tryz.ntmps145
      go_wp2_with (refine wpList_box_rc (s := s) (I := _) (T := _) _ rfl _ rfl rfl ?_; intro w0 b0 N0; have k0 := N0.rc.c0; have k9 := N0.rc.c9)
      go_ret
      exact ⟨rfl, N0.below⟩
  · rw [if_neg h1]
    have e1 : (s.kd == 1) = false := by simpa using h1
    by_cases h2 : s.kd = 2
    · rw [if_pos h2]
      have e2 : (s.kd == 2) = true := by simpa using h2
      generalize whole l = q at *
      clear h1 h2
      go_enter Tryz.func145, Tryz.ntmps145
      go_wp2_with (first
        | (refine wpList_box_rc (s := s) (I := _) (T := _) _ rfl _ rfl rfl ?_; intro w0 b0 N0; have k0 := N0.rc.c0; have k9 := N0.rc.c9)
        | (go_at_call 163; refine (CW.out _ N0.below).mono ?_; rintro e w1 ⟨rfl, b1⟩))
      go_ret
      exact ⟨rfl, thn N0.below b1⟩
    · rw [if_neg h2]
      have e2 : (s.kd == 2) = false := by simpa using h2
      by_cases h6 : s.kd = 6
      · rw [if_pos h6]
        have e6 : (s.kd == 6) = true := by simpa using h6
        clear h1 h2 h6
        by_cases a3 : s.ac = 3
        · have f3 : (s.ac == 3) = true := by simpa using a3
          have hd : decide (s.ac = 3 ∨ s.ac = 4 ∨ s.ac = 5) = true := by simp [a3]
          rw [hd]
          clear a3 hd
          go_enter Tryz.func145, Tryz.ntmps145
          go_wp2_with (refine wpList_box_rc (s := s) (I := _) (T := _) _ rfl _ rfl rfl ?_; intro w0 b0 N0; have k0 := N0.rc.c0; have k4 := N0.rc.c4)
          go_ret
          exact ⟨rfl, N0.below⟩
        · have f3 : (s.ac == 3) = false := by simpa using a3
          by_cases a4 : s.ac = 4
          · have f4 : (s.ac == 4) = true := by simpa using a4
            have hd : decide (s.ac = 3 ∨ s.ac = 4 ∨ s.ac = 5) = true := by simp [a4]
            rw [hd]
            clear a3 a4 hd
            go_enter Tryz.func145, Tryz.ntmps145
            go_wp2_with (refine wpList_box_rc (s := s) (I := _) (T := _) _ rfl _ rfl rfl ?_; intro w0 b0 N0; have k0 := N0.rc.c0; have k4 := N0.rc.c4)
            go_ret
            exact ⟨rfl, N0.below⟩
          · have f4 : (s.ac == 4) = false := by simpa using a4
            have hd : decide (s.ac = 3 ∨ s.ac = 4 ∨ s.ac = 5) = (s.ac == 5) := by by_cases a5 : s.ac = 5 <;> simp [a3, a4, a5]
            rw [hd]
            clear a3 a4 hd
            generalize hq : (s.ac == 5) = q at *
            go_enter Tryz.func145, Tryz.ntmps145
            go_wp2_with (refine wpList_box_rc (s := s) (I := _) (T := _) _ rfl _ rfl rfl ?_; intro w0 b0 N0; have k0 := N0.rc.c0; have k4 := N0.rc.c4)
            go_ret
            exact ⟨rfl, N0.below⟩
      · rw [if_neg h6]
        have e6 : (s.kd == 6) = false := by simpa using h6
        clear h1 h2 h6
        go_enter Tryz.func145, Tryz.ntmps145
        go_wp2_with (refine wpList_box_rc (s := s) (I := _) (T := _) _ rfl _ rfl rfl ?_; intro w0 b0 N0; have k0 := N0.rc.c0; have k4 := N0.rc.c4)
        go_ret
        exact ⟨rfl, N0.below⟩
end
end Go.Proofs.YtgodjnbbocnckaaGreat
