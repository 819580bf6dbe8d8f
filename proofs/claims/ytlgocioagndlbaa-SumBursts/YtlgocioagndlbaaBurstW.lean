/- The walk of SumBursts. -/
import Derived.Test.YtlgocioagndlbaaSumW
import Derived.Lib.SmallJoins
import Derived.Lib.SlBytesRow
namespace Go.Proofs.Ytlgocioagndlbaa
open Go.RowKit
set_option linter.unusedVariables false
set_option linter.unusedSimpArgs false
set_option maxRecDepth 100000

/-- The bytes of a list lie in a block. -/
def RowIn (w : World) (g m : Nat) (L : List UInt8) : Prop :=
  L.length ≤ m ∧ ∃ C : Array Value, w.heap[g]? = some (.cells C 5 (m, m + 1)) ∧ ∀ j (h : j < L.length), C[j]? = some (.int .u8 (L[j].toNat : Int))
theorem RowIn.cell {w : World} {g m : Nat} {L : List UInt8} (h : RowIn w g m L) (j : Nat) (hj : j < L.length) : w.cell? ⟨g, j, none⟩ = some (.int .u8 (L[j].toNat : Int)) := by
  obtain ⟨_, C, hC, hc⟩ := h
  rw [Joins.cell_of_block hC]
  exact hc j hj
theorem RowIn.unfrozen {w : World} {g m : Nat} {L : List UInt8} (h : RowIn w g m L) (j : Nat) (hj : j < L.length) : w.frozen? ⟨g, j, none⟩ = false := by
  obtain ⟨hm, C, hC, hc⟩ := h
  simp [World.frozen?, hC]
  omega
theorem RowIn.set {w : World} {g m : Nat} {L : List UInt8} (h : RowIn w g m L) (j : Nat) (v : UInt8) : RowIn (w.setCell ⟨g, j, none⟩ (.int .u8 (v.toNat : Int))) g m (L.set j v) := by
  obtain ⟨hm, C, hC, hc⟩ := h
  refine ⟨by simpa using hm, C.setIfInBounds j (.int .u8 (v.toNat : Int)), Joins.block_setCell hC _, ?_⟩
  intro i hi
  have hi' : i < L.length := by simpa using hi
  have hci := hc i hi'
  rw [Array.getElem?_setIfInBounds]
  by_cases hij : j = i
  · subst hij
    have hlt : j < C.size := by
      rcases Nat.lt_or_ge j C.size with hl | hl
      · exact hl
      · rw [Array.getElem?_eq_none hl] at hci; cases hci
    simp [hlt]
  · simp [hij, hci]
theorem RowIn.drewN {w : World} {g m : Nat} {L : List UInt8} (h : RowIn w g m L) (n : Nat) : RowIn (w.drewN n) g m L := h
theorem RowIn.drew {w : World} {g m : Nat} {L : List UInt8} (h : RowIn w g m L) : RowIn w.drew g m L := h
theorem rowIn_new (w : World) (t : ByteArray) (c : Nat) : RowIn (w.alloc (.cells (bytesRow t c) 5 ((bytesRow t c).size, (bytesRow t c).size + 1))).drew w.heap.size (bytesRow t c).size t.data.toList := by
  refine ⟨?_, _, (MapKept.heap_alloc w _).1, ?_⟩
  · simp only [bytesRow, Array.size_append, Array.size_map, Array.length_toList]
    omega
  · intro j hj
    have hj' : j < t.data.size := by simpa using hj
    simp only [bytesRow]
    rw [Array.getElem?_append_left (by simpa using hj'), Array.getElem?_map, Array.getElem?_eq_getElem hj']
    rfl
theorem RowIn.bytes {w : World} {g m : Nat} {L : List UInt8} (h : RowIn w g m L) : Lib.Bytes w g 0 ⟨L.toArray⟩ := by
  intro i hi
  have hi' : i < L.length := by
    have : (⟨L.toArray⟩ : ByteArray).size = L.length := by simp [ByteArray.size]
    omega
  rw [Nat.zero_add, h.cell i hi']
  rfl
theorem xor8 (x : UInt8) (r : Nat) (hr : r < 8) : bits .xor .u8 (x.toNat : Int) ((2 : Int) ^ r % 256) = ((x ^^^ UInt8.ofNat (2 ^ r)).toNat : Int) := by
  have hx := x.toNat_lt
  have h2 : 2 ^ r < 256 := by
    have : 2 ^ r < 2 ^ 8 := Nat.pow_lt_pow_right (by omega) hr
    omega
  have e1 : (2 : Int) ^ r % 256 = ((2 ^ r : Nat) : Int) := by
    have : (2 : Int) ^ r = ((2 ^ r : Nat) : Int) := by simp
    rw [this]
    exact Int.emod_eq_of_lt (Int.natCast_nonneg _) (by exact_mod_cast h2)
  have hxx : x.toNat ^^^ 2 ^ r < 2 ^ 8 := Nat.xor_lt_two_pow (by omega) (by omega)
  rw [e1]
  show IntKind.u8.wrap ((BitVec.ofInt 8 (x.toNat : Int) ^^^ BitVec.ofInt 8 ((2 ^ r : Nat) : Int)).toNat : Int) = _
  have o8 : ∀ a : Nat, a < 256 → (BitVec.ofInt 8 (a : Int)).toNat = a := by
    intro a ha
    rw [BitVec.ofInt_natCast, BitVec.toNat_ofNat]
    exact Nat.mod_eq_of_lt (by omega)
  have w8 : ∀ n : Int, IntKind.u8.wrap n = n % 256 := fun n => by simp [IntKind.wrap, IntKind.bits, IntKind.signed]
  rw [BitVec.toNat_xor, o8 _ hx, o8 _ h2, w8, UInt8.toNat_xor, UInt8.toNat_ofNat', Nat.mod_eq_of_lt (by omega : 2 ^ r < 2 ^ 8)]
  omega
/-- A round that turns a bit. -/
theorem round_odd {l L : List UInt8} {n A p i : Nat} (hL : L.length = n) (hA : A + i < 8 * n) (hi : i < 32) (hodd : p / 2 ^ i % 2 = 1)
    (h : runB ones L = runB ones l ^^^ stn (8 * n - A) (low p i)) : runB ones (flip L (A + i)) = runB ones l ^^^ stn (8 * n - A) (low p (i + 1)) := by
  rw [runB_flip ones L (A + i) (by omega), h, hL, low_succ p i hi, if_pos hodd, stn_xor, BitVec.xor_assoc, ← stn_late (8 * n - A) i hi (by omega)]
  congr 3
  omega
theorem round_even {l L : List UInt8} {n A p i : Nat} (hi : i < 32) (hodd : ¬ p / 2 ^ i % 2 = 1)
    (h : runB ones L = runB ones l ^^^ stn (8 * n - A) (low p i)) : runB ones L = runB ones l ^^^ stn (8 * n - A) (low p (i + 1)) := by
  rw [h, low_succ p i hi, if_neg hodd]
theorem half_pow (p i : Nat) : p / 2 ^ i / 2 = p / 2 ^ (i + 1) := by rw [Nat.div_div_eq_div_mul, Nat.pow_succ]
theorem flip_set (L : List UInt8) (a : Int) (i : Nat) (ha : 0 ≤ a) (h : ((a + (i : Int)) / 8).toNat < L.length) (x : UInt8) (hx : L[((a + (i : Int)) / 8).toNat] = x) :
    flip L (a.toNat + i) = L.set ((a + (i : Int)) / 8).toNat (x ^^^ UInt8.ofNat (2 ^ ((a + (i : Int)) % 8).toNat)) := by
  have e1 : (a.toNat + i) / 8 = ((a + (i : Int)) / 8).toNat := by omega
  have e2 : (a.toNat + i) % 8 = ((a + (i : Int)) % 8).toNat := by omega
  have e3 : L.getD ((a + (i : Int)) / 8).toNat 0 = x := by
    rw [List.getD_eq_getElem?_getD, List.getElem?_eq_getElem h, hx]
    rfl
  unfold flip
  rw [e1, e2, e3]
theorem quo_half {q : Int} {p i : Nat} (h : q = ((p / 2 ^ i : Nat) : Int)) (hp : p < 2 ^ 32) : wrap64 (q.tdiv 2) = q / 2 := by
  have h1 : p / 2 ^ i ≤ p := Nat.div_le_self _ _
  generalize p / 2 ^ i = d at h h1
  rw [Int.tdiv_eq_ediv_of_nonneg (by omega)]
  unfold wrap64
  omega
set_option maxHeartbeats 2000000 in
theorem sumBursts_walk (s : ByteArray) (a p : Int) (w : World) (hs : s.size ≤ 140737488351232) :
    Calls Try.prog 8 #[.string s, .int .i64 a, .int .i64 p] w fun e w' => e = .returned (.bool true) ∧ Below w.heap.size w w' := by
  have hcv := fun w s => run_bytes_of_string (P := Try.prog) w 9 31 5 s Try.underlying9 Try.underlying31 Try.underlying5
  by_cases hA : 1000 < s.size
  · obtain ⟨t, hx⟩ : ∃ t, s.extract 0 1000 = t := ⟨_, rfl⟩
    have htz : t.size ≤ 1000 := by rw [← hx, ByteArray.size_extract]; omega
    have u9 : decide (1000 < (s.size : Int)) = true := by simp; omega
    by_cases t0 : p < 1
    · have u0 : decide (p < 1) = true := by simpa using t0
      clear t0
      go_enter Try.func8, Try.ntmps8
      go_wp2_with (go_at_call 12; refine (awake_any _).mono ?_; rintro e w5 ⟨rfl, b5⟩)
      go_ret
      exact ⟨rfl, b5⟩
    · have u0 : decide (p < 1) = false := by simpa using t0
      by_cases t1 : 4294967295 < p
      · have u1 : decide (4294967295 < p) = true := by simpa using t1
        clear t1 t0
        go_enter Try.func8, Try.ntmps8
        go_wp2_with (go_at_call 12; refine (awake_any _).mono ?_; rintro e w5 ⟨rfl, b5⟩)
        go_ret
        exact ⟨rfl, b5⟩
      · have u1 : decide (4294967295 < p) = false := by simpa using t1
        by_cases t2 : a < 0
        · have u2 : decide (a < 0) = true := by simpa using t2
          clear t2 t0 t1
          go_enter Try.func8, Try.ntmps8
          go_wp2_with (go_at_call 12; refine (awake_any _).mono ?_; rintro e w5 ⟨rfl, b5⟩)
          go_ret
          exact ⟨rfl, b5⟩
        · have u2 : decide (a < 0) = false := by simpa using t2
          by_cases t3 : 8 * (t.size : Int) ≤ a
          · have u3 : decide (8 * (t.size : Int) ≤ a) = true := by simpa using t3
            clear t3 t0 t1 t2
            go_enter Try.func8, Try.ntmps8
            go_wp2_with (go_at_call 12; refine (awake_any _).mono ?_; rintro e w5 ⟨rfl, b5⟩)
            go_ret
            exact ⟨rfl, b5⟩
          · have u3 : decide (8 * (t.size : Int) ≤ a) = false := by simpa using t3
            have ha0 : 0 ≤ a := by omega
            have ha8 : a < 8 * (t.size : Int) := by omega
            have hp1 : 0 < p.toNat := by omega
            have hp2 : p.toNat < 2 ^ 32 := by omega
            have hp0 : 0 ≤ p := by omega
            have HP : Hid (p = (p.toNat : Int)) := by show p = _; omega
            have HP1 : Hid _ := hp1
            have HP2 : Hid _ := hp2
            clear hp1 hp2 t0 t1 t2 t3
            go_enter Try.func8, Try.ntmps8
            go_wp2
            have hrow := rowIn_new w t (grownCap w t.size 0 5)
            have hbel0 : Below w.heap.size w (w.alloc (.cells (bytesRow t (grownCap w t.size 0 5)) 5 ((bytesRow t (grownCap w t.size 0 5)).size, (bytesRow t (grownCap w t.size 0 5)).size + 1))).drew := ((Below.refl _ _).alloc (Nat.le_refl _) _).drew
            generalize grownCap w t.size 0 5 = gc at hrow hbel0 ⊢
            generalize (w.alloc (.cells (bytesRow t gc) 5 ((bytesRow t gc).size, (bytesRow t gc).size + 1))).drew = W0 at hrow hbel0 ⊢
            generalize (bytesRow t gc).size = m at hrow
            clear hcv
            go_loopw [2, 8] (fun pv iv wr => ∃ (i : Nat) (q : Int) (L : List UInt8), i ≤ 32 ∧ iv = .int .i64 i ∧ pv = .int .i64 q ∧ Hid (q = ((p.toNat / 2 ^ i : Nat) : Int)) ∧ 0 ≤ q ∧ Hid (L.length = t.size) ∧ Hid (RowIn wr w.heap.size m L) ∧ Hid (runB ones L = runB ones t.data.toList ^^^ stn (8 * t.size - a.toNat) (low p.toNat i)) ∧ Below w.heap.size w wr) (fun _ iv _ => 32 - (intOf iv).toNat)
            case atStart =>
              refine ⟨0, p, t.data.toList, by omega, rfl, rfl, ?_, hp0, ?_, hrow, ?_, hbel0⟩
              · show p = ((p.toNat / 2 ^ 0 : Nat) : Int)
                rw [Nat.pow_zero, Nat.div_one]
                exact HP.out
              · show t.data.toList.length = t.size
                simp
              · show runB ones t.data.toList = _
                rw [low_zero, stn_zero]
                simp
            case round =>
              obtain ⟨i, q, L, hi, rfl, rfl, HQ, hq0, HL, HR, HE, hbel⟩ := hrel
              by_cases hlt : i < 32
              · by_cases hodd : q % 2 = 1
                · have hk0 : 0 ≤ (a + (i : Int)) / 8 := by omega
                  have hr0 : 0 ≤ (a + (i : Int)) % 8 := by omega
                  have hr1 : (a + (i : Int)) % 8 < 8 := by omega
                  by_cases hin : (a + (i : Int)) / 8 < t.size
                  · have hkL : ((a + (i : Int)) / 8).toNat < L.length := by rw [HL.out]; omega
                    have hcell := HR.out.cell ((a + (i : Int)) / 8).toNat hkL
                    have hfr := HR.out.unfrozen ((a + (i : Int)) / 8).toNat hkL
                    generalize hx : L[((a + (i : Int)) / 8).toNat] = x at hcell
                    have HX : Hid _ := hx
                    clear hx
                    go_wp2
                    go_region
                    rw [xor8 x _ (by omega)]
                    go_wp2
                    go_roundw
                    case rel =>
                      refine ⟨i + 1, q / 2, flip L (a.toNat + i), by omega, by go_num, by rw [quo_half HQ.out HP2.out], ?_, by omega, ?_, ?_, ?_, ?_⟩
                      · show q / 2 = _
                        rw [HQ.out, ← half_pow]
                        omega
                      · show (flip L (a.toNat + i)).length = _
                        rw [flip_length]
                        exact HL.out
                      · rw [flip_set L a i ha0 hkL x HX.out]
                        exact (HR.out.set _ _).drew
                      · exact round_odd HL.out (by omega) hlt (by have := HQ.out; omega) HE.out
                      · exact (hbel.setCell (Nat.le_refl _) _).drew
                    case measure => simp [intOf]; omega
                  · go_wp2_with (go_at_call 12; refine (awake_any _).mono ?_; rintro e w5 ⟨rfl, b5⟩)
                    go_ret
                    exact ⟨rfl, hbel.trans (b5.mono hbel.size)⟩
                · go_wp2
                  go_roundw
                  case rel =>
                    refine ⟨i + 1, q / 2, L, by omega, by go_num, by rw [quo_half HQ.out HP2.out], ?_, by omega, HL, HR, ?_, hbel⟩
                    · show q / 2 = _
                      rw [HQ.out, ← half_pow]
                      omega
                    · exact round_even hlt (by have := HQ.out; omega) HE.out
                  case measure => simp [intOf]; omega
              · obtain rfl : i = 32 := by omega
                have hne := burst_ne t.data.toList L (8 * t.size - a.toNat) p.toNat HP1.out HP2.out HE.out
                obtain ⟨u, hu⟩ : ∃ u : ByteArray, (⟨L.toArray⟩ : ByteArray) = u := ⟨_, rfl⟩
                have hus : u.size = t.size := by rw [← hu, ← HL.out]; simp [ByteArray.size]
                have hcv2 : (convert 31 9 (.slice (some ⟨w.heap.size, 0, none⟩) t.size gc)).run Try.prog wr = .ok (.string u) wr := by
                  have := Lib.run_convert_whole (P := Try.prog) wr 31 5 9 Try.underlying31 Try.underlying5 Try.underlying9 w.heap.size 0 ⟨L.toArray⟩ HR.out.bytes gc
                  rw [hu, hus] at this
                  exact this
                have hneq : (sumI u != sumI t) = true := by
                  have : sumI u ≠ sumI t := by
                    intro e
                    apply hne
                    have := vI_inj e
                    rw [← hu] at this
                    simpa using this
                  simpa using this
                have HO : Hid (∀ x : ByteArray, x = u ∨ x = t → x.size ≤ 281474976710656) := by
                  rintro x (rfl | rfl)
                  · omega
                  · omega
                clear hne hu hus
                go_wp2_with (first | (go_at_call 10; refine (Sum_I _ _ (HO.out _ ?_)).mono ?_; exact Or.inl rfl; rintro e w3 ⟨rfl, b3⟩) | (go_at_call 10; refine (Sum_I _ _ (HO.out _ ?_)).mono ?_; exact Or.inr rfl; rintro e w4 ⟨rfl, b4⟩) | (go_at_call 12; refine (awake_any _).mono ?_; rintro e w5 ⟨rfl, b5⟩))
                go_ret
                have c3 := hbel.trans (b3.mono hbel.size)
                have c4 := c3.trans (b4.mono c3.size)
                exact ⟨rfl, c4.trans (b5.mono c4.size)⟩
  · obtain ⟨t, rfl⟩ : ∃ t, t = s := ⟨_, rfl⟩
    have htz : t.size ≤ 1000 := by omega
    have u9 : decide (1000 < (t.size : Int)) = false := by simp; omega
    clear hs hA
    by_cases t0 : p < 1
    · have u0 : decide (p < 1) = true := by simpa using t0
      clear t0
      go_enter Try.func8, Try.ntmps8
      go_wp2_with (go_at_call 12; refine (awake_any _).mono ?_; rintro e w5 ⟨rfl, b5⟩)
      go_ret
      exact ⟨rfl, b5⟩
    · have u0 : decide (p < 1) = false := by simpa using t0
      by_cases t1 : 4294967295 < p
      · have u1 : decide (4294967295 < p) = true := by simpa using t1
        clear t1 t0
        go_enter Try.func8, Try.ntmps8
        go_wp2_with (go_at_call 12; refine (awake_any _).mono ?_; rintro e w5 ⟨rfl, b5⟩)
        go_ret
        exact ⟨rfl, b5⟩
      · have u1 : decide (4294967295 < p) = false := by simpa using t1
        by_cases t2 : a < 0
        · have u2 : decide (a < 0) = true := by simpa using t2
          clear t2 t0 t1
          go_enter Try.func8, Try.ntmps8
          go_wp2_with (go_at_call 12; refine (awake_any _).mono ?_; rintro e w5 ⟨rfl, b5⟩)
          go_ret
          exact ⟨rfl, b5⟩
        · have u2 : decide (a < 0) = false := by simpa using t2
          by_cases t3 : 8 * (t.size : Int) ≤ a
          · have u3 : decide (8 * (t.size : Int) ≤ a) = true := by simpa using t3
            clear t3 t0 t1 t2
            go_enter Try.func8, Try.ntmps8
            go_wp2_with (go_at_call 12; refine (awake_any _).mono ?_; rintro e w5 ⟨rfl, b5⟩)
            go_ret
            exact ⟨rfl, b5⟩
          · have u3 : decide (8 * (t.size : Int) ≤ a) = false := by simpa using t3
            have ha0 : 0 ≤ a := by omega
            have ha8 : a < 8 * (t.size : Int) := by omega
            have hp1 : 0 < p.toNat := by omega
            have hp2 : p.toNat < 2 ^ 32 := by omega
            have hp0 : 0 ≤ p := by omega
            have HP : Hid (p = (p.toNat : Int)) := by show p = _; omega
            have HP1 : Hid _ := hp1
            have HP2 : Hid _ := hp2
            clear hp1 hp2 t0 t1 t2 t3
            go_enter Try.func8, Try.ntmps8
            go_wp2
            have hrow := rowIn_new w t (grownCap w t.size 0 5)
            have hbel0 : Below w.heap.size w (w.alloc (.cells (bytesRow t (grownCap w t.size 0 5)) 5 ((bytesRow t (grownCap w t.size 0 5)).size, (bytesRow t (grownCap w t.size 0 5)).size + 1))).drew := ((Below.refl _ _).alloc (Nat.le_refl _) _).drew
            generalize grownCap w t.size 0 5 = gc at hrow hbel0 ⊢
            generalize (w.alloc (.cells (bytesRow t gc) 5 ((bytesRow t gc).size, (bytesRow t gc).size + 1))).drew = W0 at hrow hbel0 ⊢
            generalize (bytesRow t gc).size = m at hrow
            clear hcv
            go_loopw [2, 8] (fun pv iv wr => ∃ (i : Nat) (q : Int) (L : List UInt8), i ≤ 32 ∧ iv = .int .i64 i ∧ pv = .int .i64 q ∧ Hid (q = ((p.toNat / 2 ^ i : Nat) : Int)) ∧ 0 ≤ q ∧ Hid (L.length = t.size) ∧ Hid (RowIn wr w.heap.size m L) ∧ Hid (runB ones L = runB ones t.data.toList ^^^ stn (8 * t.size - a.toNat) (low p.toNat i)) ∧ Below w.heap.size w wr) (fun _ iv _ => 32 - (intOf iv).toNat)
            case atStart =>
              refine ⟨0, p, t.data.toList, by omega, rfl, rfl, ?_, hp0, ?_, hrow, ?_, hbel0⟩
              · show p = ((p.toNat / 2 ^ 0 : Nat) : Int)
                rw [Nat.pow_zero, Nat.div_one]
                exact HP.out
              · show t.data.toList.length = t.size
                simp
              · show runB ones t.data.toList = _
                rw [low_zero, stn_zero]
                simp
            case round =>
              obtain ⟨i, q, L, hi, rfl, rfl, HQ, hq0, HL, HR, HE, hbel⟩ := hrel
              by_cases hlt : i < 32
              · by_cases hodd : q % 2 = 1
                · have hk0 : 0 ≤ (a + (i : Int)) / 8 := by omega
                  have hr0 : 0 ≤ (a + (i : Int)) % 8 := by omega
                  have hr1 : (a + (i : Int)) % 8 < 8 := by omega
                  by_cases hin : (a + (i : Int)) / 8 < t.size
                  · have hkL : ((a + (i : Int)) / 8).toNat < L.length := by rw [HL.out]; omega
                    have hcell := HR.out.cell ((a + (i : Int)) / 8).toNat hkL
                    have hfr := HR.out.unfrozen ((a + (i : Int)) / 8).toNat hkL
                    generalize hx : L[((a + (i : Int)) / 8).toNat] = x at hcell
                    have HX : Hid _ := hx
                    clear hx
                    go_wp2
                    go_region
                    rw [xor8 x _ (by omega)]
                    go_wp2
                    go_roundw
                    case rel =>
                      refine ⟨i + 1, q / 2, flip L (a.toNat + i), by omega, by go_num, by rw [quo_half HQ.out HP2.out], ?_, by omega, ?_, ?_, ?_, ?_⟩
                      · show q / 2 = _
                        rw [HQ.out, ← half_pow]
                        omega
                      · show (flip L (a.toNat + i)).length = _
                        rw [flip_length]
                        exact HL.out
                      · rw [flip_set L a i ha0 hkL x HX.out]
                        exact (HR.out.set _ _).drew
                      · exact round_odd HL.out (by omega) hlt (by have := HQ.out; omega) HE.out
                      · exact (hbel.setCell (Nat.le_refl _) _).drew
                    case measure => simp [intOf]; omega
                  · go_wp2_with (go_at_call 12; refine (awake_any _).mono ?_; rintro e w5 ⟨rfl, b5⟩)
                    go_ret
                    exact ⟨rfl, hbel.trans (b5.mono hbel.size)⟩
                · go_wp2
                  go_roundw
                  case rel =>
                    refine ⟨i + 1, q / 2, L, by omega, by go_num, by rw [quo_half HQ.out HP2.out], ?_, by omega, HL, HR, ?_, hbel⟩
                    · show q / 2 = _
                      rw [HQ.out, ← half_pow]
                      omega
                    · exact round_even hlt (by have := HQ.out; omega) HE.out
                  case measure => simp [intOf]; omega
              · obtain rfl : i = 32 := by omega
                have hne := burst_ne t.data.toList L (8 * t.size - a.toNat) p.toNat HP1.out HP2.out HE.out
                obtain ⟨u, hu⟩ : ∃ u : ByteArray, (⟨L.toArray⟩ : ByteArray) = u := ⟨_, rfl⟩
                have hus : u.size = t.size := by rw [← hu, ← HL.out]; simp [ByteArray.size]
                have hcv2 : (convert 31 9 (.slice (some ⟨w.heap.size, 0, none⟩) t.size gc)).run Try.prog wr = .ok (.string u) wr := by
                  have := Lib.run_convert_whole (P := Try.prog) wr 31 5 9 Try.underlying31 Try.underlying5 Try.underlying9 w.heap.size 0 ⟨L.toArray⟩ HR.out.bytes gc
                  rw [hu, hus] at this
                  exact this
                have hneq : (sumI u != sumI t) = true := by
                  have : sumI u ≠ sumI t := by
                    intro e
                    apply hne
                    have := vI_inj e
                    rw [← hu] at this
                    simpa using this
                  simpa using this
                have HO : Hid (∀ x : ByteArray, x = u ∨ x = t → x.size ≤ 281474976710656) := by
                  rintro x (rfl | rfl)
                  · omega
                  · omega
                clear hne hu hus
                go_wp2_with (first | (go_at_call 10; refine (Sum_I _ _ (HO.out _ ?_)).mono ?_; exact Or.inl rfl; rintro e w3 ⟨rfl, b3⟩) | (go_at_call 10; refine (Sum_I _ _ (HO.out _ ?_)).mono ?_; exact Or.inr rfl; rintro e w4 ⟨rfl, b4⟩) | (go_at_call 12; refine (awake_any _).mono ?_; rintro e w5 ⟨rfl, b5⟩))
                go_ret
                have c3 := hbel.trans (b3.mono hbel.size)
                have c4 := c3.trans (b4.mono c3.size)
                exact ⟨rfl, c4.trans (b5.mono c4.size)⟩
end Go.Proofs.Ytlgocioagndlbaa
