/- The sum that goes on over a text: what More and Sum of the layer return. -/
import Derived.Test.YtakdfdnndogaiaaSmTab
import Derived.Lib.SmallJoins
import Derived.Lib.SlBytesRow
namespace Go.Proofs.Ytakdfdnndogaiaa.Sm
open Go.RowKit
set_option linter.unusedVariables false
set_option linter.unusedSimpArgs false
set_option maxRecDepth 100000

theorem ofB_vI (b : UInt8) : (b.toNat : Int) = vI (ofB b) := by
  unfold vI ofB
  have := b.toNat_lt
  rw [BitVec.toNat_ofNat]
  omega
theorem ofB_mod (b : UInt8) : (b.toNat : Int) % 4294967296 = vI (ofB b) := by
  rw [← ofB_vI]
  have := b.toNat_lt
  omega
/-- One half of a byte, as the program steps. -/
theorem half_facts (c : R) : ∃ (n : Nat) (s d : R), bits .and .u32 (vI c) 15 = (n : Int) ∧ n < 16 ∧ (tab 16)[n]? = some (.int .u32 (vI d)) ∧ vI c / (16 : Int) = vI s ∧ bits .xor .u32 (vI s) (vI d) = vI (stn 4 c) := by
  have e15 : (15 : Int) = vI 15#32 := rfl
  have hlt : (c &&& 15#32).toNat < 16 := by
    rw [BitVec.toNat_and]
    have : c.toNat &&& (15#32).toNat ≤ 15 := Nat.and_le_right
    omega
  refine ⟨(c &&& 15#32).toNat, c >>> 4, stn 4 (c &&& 15#32), ?_, hlt, ?_, shr32_4 c, ?_⟩
  · rw [e15, and32]; rfl
  · rw [tab_get 16 _ hlt, if_pos hlt, BitVec.ofNat_toNat]
    simp
  · rw [xor32, ← four_steps]
theorem not32 (n : Int) : bits .xor .u32 IntKind.u32.max (n % 4294967296) = vI (BitVec.ofInt 32 n ^^^ ones) := by
  have e1 : IntKind.u32.max = vI ones := rfl
  have e2 : n % 4294967296 = vI (BitVec.ofInt 32 n) := by
    unfold vI
    rw [BitVec.toNat_ofInt]
    omega
  rw [e1, e2, xor32, BitVec.xor_comm]
theorem not32_vI (c : R) : bits .xor .u32 IntKind.u32.max (vI c) = vI (c ^^^ ones) := by
  have e1 : IntKind.u32.max = vI ones := rfl
  rw [e1, xor32, BitVec.xor_comm]
theorem take_snoc (s : ByteArray) (k : Nat) (h : k < s.size) : s.data.toList.take (k + 1) = s.data.toList.take k ++ [s[k]] := by
  rw [List.take_succ_eq_append_getElem (by simpa using h)]; rfl
theorem bytesRow_cell (w : World) (s : ByteArray) (c m : Nat) (k : Nat) (h : k < s.size) :
    (w.alloc (.cells (bytesRow s c) 5 (m, m + 1))).cell? ⟨w.heap.size, k, none⟩ = some (.int .u8 (s[k].toNat : Int)) := by
  rw [World.cell?_alloc_mark]
  have h' : k < s.data.size := h
  simp only [bytesRow]
  rw [Array.getElem?_append_left (by simpa using h')]
  rw [Array.getElem?_map, Array.getElem?_eq_getElem h']
  rfl
theorem runB_snoc (c : R) (l : List UInt8) (b : UInt8) : runB c (l ++ [b]) = stn 4 (stn 4 (runB c l ^^^ ofB b)) := by
  rw [runB_append, ← stn_add]
  rfl
theorem More_any (n : Int) (s : ByteArray) (w : World) (hs : s.size ≤ 281474976710656) :
    Calls Try.prog 40 #[.int .i64 n, .string s] w fun e w' => e = .returned (.int .i64 (vI (moreB (BitVec.ofInt 32 n) s.data.toList))) ∧ Below w.heap.size w w' := by
  have hcv := fun w s => run_bytes_of_string (P := Try.prog) w 9 31 5 s Try.underlying9 Try.underlying31 Try.underlying5
  obtain ⟨C, hC⟩ : ∃ C, BitVec.ofInt 32 n ^^^ ones = C := ⟨_, rfl⟩
  have h0 := not32 n
  have hm : moreB (BitVec.ofInt 32 n) s.data.toList = runB C s.data.toList ^^^ ones := by rw [moreB, hC]
  rw [hC] at h0
  rw [hm]
  clear hm hC
  go_enter Try.func40, Try.ntmps40
  go_wp2_with (go_at_call 62; refine (fourShifts_lit _).mono ?_; rintro e w1 ⟨rfl, hb1⟩)
  rw [← tab_full]
  generalize grownCap (w1.alloc (Obj.cells (tab 16) 95)) s.size 0 5 = gc
  have hrow : ∀ j (hj : j < s.size), ((w1.alloc (Obj.cells (tab 16) 95)).alloc (Obj.cells (bytesRow s gc) 5 ((bytesRow s gc).size, (bytesRow s gc).size + 1))).drew.cell? ⟨w1.heap.size + 1, j, none⟩ = some (.int .u8 (s[j].toNat : Int)) := by
    intro j hj
    have := bytesRow_cell (w1.alloc (Obj.cells (tab 16) 95)) s gc (bytesRow s gc).size j hj
    simpa [go_sem] using this
  have htab : ∀ j, ((w1.alloc (Obj.cells (tab 16) 95)).alloc (Obj.cells (bytesRow s gc) 5 ((bytesRow s gc).size, (bytesRow s gc).size + 1))).drew.cell? ⟨w1.heap.size, j, none⟩ = (tab 16)[j]? := by
    intro j
    simp [go_sem]
  have hbel : Below w.heap.size w ((w1.alloc (Obj.cells (tab 16) 95)).alloc (Obj.cells (bytesRow s gc) 5 ((bytesRow s gc).size, (bytesRow s gc).size + 1))).drew :=
    ((hb1.alloc hb1.size _).alloc (by have := hb1.size; simp; omega) _).drew
  generalize ((w1.alloc (Obj.cells (tab 16) 95)).alloc (Obj.cells (bytesRow s gc) 5 ((bytesRow s gc).size, (bytesRow s gc).size + 1))).drew = W at hrow htab hbel ⊢
  have HR : Hid _ := hrow
  have HT : Hid _ := htab
  have HB : Hid _ := hbel
  clear hrow htab hbel hcv
  go_loop [6, 16] (fun r i => ∃ j : Nat, j ≤ s.size ∧ i = .int .i64 j ∧ r = .int .u32 (vI (runB C (s.data.toList.take j)))) (fun _ i => s.size - (intOf i).toNat)
  case atStart => exact ⟨0, Nat.zero_le _, rfl, rfl⟩
  case round =>
    obtain ⟨j, hj, rfl, rfl⟩ := hrel
    by_cases hlt : j < s.size
    · have hc := HR.out j hlt
      have HS : Hid _ := runB_snoc C (s.data.toList.take j) s[j]
      have HS2 : Hid _ := take_snoc s j hlt
      have e1 := xor32 (runB C (s.data.toList.take j)) (ofB s[j])
      rw [← ofB_mod] at e1
      generalize runB C (s.data.toList.take j) = c0 at *
      generalize c0 ^^^ ofB s[j] = c1 at *
      obtain ⟨n1, s1, d1, f1, g1, t1, k1, x1⟩ := half_facts c1
      have T1 := HT.out n1
      rw [t1] at T1
      generalize stn 4 c1 = c2 at *
      obtain ⟨n2, s2, d2, f2, g2, t2, k2, x2⟩ := half_facts c2
      have T2 := HT.out n2
      rw [t2] at T2
      generalize stn 4 c2 = c3 at *
      clear t1 t2
      go_wp2
      go_round
      case rel => exact ⟨j + 1, by omega, by go_num, by rw [HS2.out, HS.out]⟩
      case measure => simp [intOf]; omega
    · have hn := not32_vI (runB C (s.data.toList.take j))
      have hw := wrap64_vI (runB C (s.data.toList.take j) ^^^ ones)
      rw [List.take_of_length_le (by simp; omega)] at *
      go_wp2
      go_ret
      exact ⟨rfl, HB.out⟩
end Go.Proofs.Ytakdfdnndogaiaa.Sm
