/- What is read of a page in memory: its head, its slots, its cells. -/
import Derived.Test.YtmoognjegjeegaaMem
namespace Go.Proofs.Ytmoognjegjeegaa
open Go.RowKit
set_option linter.unusedVariables false
set_option linter.unusedSimpArgs false
set_option maxRecDepth 100000

section
variable {w : World} {b : Nat} {s : List UInt8}
theorem kind_any (w : World) (h : Sh w b s) : Calls Try.prog 41 #[.pointer (some ⟨b, 0, none⟩)] w fun e w' => e = .returned (.int .i64 (g s 0)) ∧ w' = w := by
  have hc := h.cell (j := 0) (by omega)
  have hb := g_lt s 0
  clear h
  go_enter Try.func41, Try.ntmps41
  go_wp2
  go_ret
  exact ⟨rfl, rfl⟩
theorem level_any (w : World) (h : Sh w b s) : Calls Try.prog 42 #[.pointer (some ⟨b, 0, none⟩)] w fun e w' => e = .returned (.int .i64 (g s 1)) ∧ w' = w := by
  have hc := h.cell (j := 1) (by omega)
  have hb := g_lt s 1
  clear h
  go_enter Try.func42, Try.ntmps42
  go_wp2
  go_ret
  exact ⟨rfl, rfl⟩
theorem count_any (w : World) (h : Sh w b s) : Calls Try.prog 39 #[.pointer (some ⟨b, 0, none⟩)] w fun e w' => e = .returned (.int .i64 (cnt s)) ∧ w' = w := by
  have hc := h.cell (j := 2) (by omega)
  have hb := g_lt s 2
  clear h
  go_enter Try.func39, Try.ntmps39
  go_wp2
  go_ret
  exact ⟨rfl, rfl⟩
theorem end_any (w : World) (h : Sh w b s) : Calls Try.prog 63 #[.pointer (some ⟨b, 0, none⟩)] w fun e w' => e = .returned (.int .i64 (en s)) ∧ w' = w := by
  have hc := h.cell (j := 3) (by omega)
  have hb := g_lt s 3
  clear h
  go_enter Try.func63, Try.ntmps63
  go_wp2
  go_ret
  exact ⟨rfl, rfl⟩
theorem slot_any (w : World) (h : Sh w b s) (i : Nat) (hi : i < 224) : Calls Try.prog 66 #[.pointer (some ⟨b, 0, none⟩), .int .i64 (i : Int)] w fun e w' => e = .returned (.int .i64 (slot s i)) ∧ w' = w := by
  have hc := h.cell (j := 223 - i) (by omega)
  obtain ⟨j, hj⟩ : ∃ j : Nat, j = 223 - i := ⟨_, rfl⟩
  have e : (223 : Int) - (i : Int) = (j : Int) := by omega
  have hj' : j < 224 := by omega
  have hs : slot s i = g s j := by rw [hj]; rfl
  rw [← hj] at hc
  rw [hs]
  have hb := g_lt s j
  clear h hj hs
  go_enter Try.func66, Try.ntmps66
  go_wp2
  go_ret
  exact ⟨rfl, rfl⟩

theorem slice_l (w : World) (b l : Nat) (x : Int) (hx : x = (l : Int)) (hl : l < 224) : (Instr.sliceAt 63 (.pointer (some ⟨b, 0, none⟩)) (some (.int .i64 x)) none none).run Try.prog w = .ok (.slice (some ⟨b, l, none⟩) (224 - l) (224 - l)) w := by
  subst hx
  have h := run_sliceAt_array_l (P := Try.prog) w 63 ⟨b, 0, none⟩ (by kernel_rfl) .i64 (l : Int) (by omega) (by show (l : Int) ≤ ((224 : Nat) : Int); omega)
  have hz : ∀ w, (Go.sizeOf (Try.prog.elem 63)).run Try.prog w = .ok 1 w := fun w => by kernel_rfl
  have ha : Try.prog.arrayLen 63 = 224 := by kernel_rfl
  rw [h, hz, ha]
  simp only [Result.andThen, slicedAt, Int.toNat_natCast, Nat.mul_one]
  rw [if_neg (by omega), Addr.add_mid, Nat.zero_add]
theorem slice_h (w : World) (b l n k : Nat) (hk : k ≤ n) (kk : IntKind) : (Instr.slice 74 (.slice (some ⟨b, l, none⟩) n n) none (some (.int kk (k : Int))) none).run Try.prog w = .ok (.slice (some ⟨b, l, none⟩) k n) w := by
  have h := run_slice_h (P := Try.prog) w 74 (some ⟨b, l, none⟩) n n (by kernel_rfl) kk (k : Int) (by omega) (by omega)
  have hz : ∀ w, (Go.sizeOf (Try.prog.elem 74)).run Try.prog w = .ok 1 w := fun w => by kernel_rfl
  rw [h, hz]
  simp only [Result.andThen, sliced, Int.toNat_natCast, Nat.sub_zero, Nat.mul_one, Nat.zero_mul]
  split
  · rfl
  · simp [Addr.add_mid]
theorem conv_seg {w : World} {b : Nat} {s : List UInt8} (h : Sh w b s) (a n cap : Nat) (hn : a + n ≤ 224) : (convert 74 9 (.slice (some ⟨b, a, none⟩) n cap)).run Try.prog w = .ok (.string (tx (seg s a n))) w := by
  have hl : (seg s a n).length = n := seg_length (by rw [h.len]; exact hn)
  have := Lib.run_convert_whole (P := Try.prog) w 74 5 9 Try.underlying74 Try.underlying5 Try.underlying9 b a (tx (seg s a n)) (fun i hi => by
    rw [tx_size, hl] at hi
    have h1 := h.cell (j := a + i) (by omega)
    rw [h1]
    have h2 : s[a + i]? = some ((tx (seg s a n)).data[i]'(by simpa [tx, hl] using hi)) := by
      have := seg_get s a n i
      rw [if_pos hi] at this
      rw [← this]
      simp [tx, hl, hi]
    simp only [g, h2]
    rfl) cap
  rw [tx_size, hl] at this
  exact this

theorem key_any (w : World) (h : Sh w b s) (i : Nat) (hi : i < 224) (ha : At s (slot s i)) (he : en s ≤ 223) : Calls Try.prog 60 #[.pointer (some ⟨b, 0, none⟩), .int .i64 (i : Int)] w fun e w' => e = .returned (.string (key s i)) ∧ ∃ n, w' = w.drewN n := by
  have C : Hid (∀ w, Sh w b s → Calls Try.prog 66 #[.pointer (some ⟨b, 0, none⟩), .int .i64 (i : Int)] w fun e w' => e = .returned (.int .i64 (slot s i)) ∧ w' = w) := fun w h => slot_any w h i hi
  obtain ⟨x, hx⟩ : ∃ x, x = slot s i := ⟨_, rfl⟩
  rw [← hx] at C ha
  have hk : key s i = tx (seg s (x + 2) (g s x)) := by rw [hx]; rfl
  rw [hk]
  have hb := g_lt s x
  have h2 := ha.two
  have h3 := ha.hi
  have hc := h.cell (j := x) (by omega)
  have hx' : x < 224 := by omega
  have s1 := fun w => slice_l w b (x + 2) ((x : Int) + 2) (by omega) (by omega)
  have s2 := fun w => slice_h w b (x + 2) (224 - (x + 2)) (g s x) (by omega) .u8
  have hcv := fun n cap => conv_seg (h.drewN n) (x + 2) (g s x) cap (by omega)
  have H : Hid _ := h
  clear h hx hk ha
  go_enter Try.func60, Try.ntmps60
  go_wp2_with (go_at_call 66; refine (C.out _ H.out).mono ?_; rintro e w' ⟨rfl, rfl⟩)
  go_quiet (fail)
  go_wp2
  go_ret
  exact ⟨rfl, _, rfl⟩
theorem val_any (w : World) (h : Sh w b s) (i : Nat) (hi : i < 224) (ha : At s (slot s i)) (he : en s ≤ 223) : Calls Try.prog 61 #[.pointer (some ⟨b, 0, none⟩), .int .i64 (i : Int)] w fun e w' => e = .returned (.string (val s i)) ∧ ∃ n, w' = w.drewN n := by
  have C : Hid (∀ w, Sh w b s → Calls Try.prog 66 #[.pointer (some ⟨b, 0, none⟩), .int .i64 (i : Int)] w fun e w' => e = .returned (.int .i64 (slot s i)) ∧ w' = w) := fun w h => slot_any w h i hi
  obtain ⟨x, hx⟩ : ∃ x, x = slot s i := ⟨_, rfl⟩
  rw [← hx] at C ha
  have hk : val s i = tx (seg s (x + 2 + g s x) (g s (x + 1))) := by rw [hx]; rfl
  rw [hk]
  have hb := g_lt s x
  have hb1 := g_lt s (x + 1)
  have h2 := ha.two
  have h3 := ha.hi
  have hc := h.cell (j := x) (by omega)
  have hc1 := h.cell (j := x + 1) (by omega)
  have hx' : x + 1 < 224 := by omega
  have s1 := fun w => slice_l w b (x + 2 + g s x) ((x : Int) + 2 + (g s x : Int)) (by omega) (by omega)
  have s2 := fun w => slice_h w b (x + 2 + g s x) (224 - (x + 2 + g s x)) (g s (x + 1)) (by omega) .u8
  have hcv := fun n cap => conv_seg (h.drewN n) (x + 2 + g s x) (g s (x + 1)) cap (by omega)
  have H : Hid _ := h
  clear h hx hk ha
  go_enter Try.func61, Try.ntmps61
  go_wp2_with (go_at_call 66; refine (C.out _ H.out).mono ?_; rintro e w' ⟨rfl, rfl⟩)
  go_quiet (fail)
  go_wp2
  go_ret
  exact ⟨rfl, _, rfl⟩
theorem Need_any (w : World) (c : Cl) (hk : c.k.size ≤ 140737488351232) (hv : c.v.size ≤ 140737488351232) : Calls Try.prog 27 #[.agg #[.string c.k, .string c.v]] w fun e w' => e = .returned (.int .i64 (need c)) ∧ Below w.heap.size w w' := by
  have e1 : (need c : Int) = 2 + (c.k.size : Int) + (c.v.size : Int) + 1 := by simp only [need]; omega
  rw [e1]
  go_enter Try.func27, Try.ntmps27
  go_wp2
  go_ret
  exact ⟨rfl, (Below.refl _ _).alloc (Nat.le_refl _) _⟩
/-- Why a cell is too long. -/
def long (c : Cl) : Int := if 16 < c.k.size then 17 else if 32 < c.v.size then 18 else 0
theorem tooLong_any (w : World) (c : Cl) : Calls Try.prog 47 #[.agg #[.string c.k, .string c.v]] w fun e w' => e = .returned (.int .i64 (long c)) ∧ Below w.heap.size w w' := by
  by_cases h1 : 16 < c.k.size
  · have h1' : (16 : Int) < (c.k.size : Int) := by omega
    have e : long c = 17 := by simp [long, h1]
    rw [e]
    go_enter Try.func47, Try.ntmps47
    go_wp2
    go_ret
    exact ⟨rfl, (Below.refl _ _).alloc (Nat.le_refl _) _⟩
  · have h1' : ¬ (16 : Int) < (c.k.size : Int) := by omega
    by_cases h2 : 32 < c.v.size
    · have h2' : (32 : Int) < (c.v.size : Int) := by omega
      have e : long c = 18 := by simp [long, h1, h2]
      rw [e]
      go_enter Try.func47, Try.ntmps47
      go_wp2
      go_ret
      exact ⟨rfl, (Below.refl _ _).alloc (Nat.le_refl _) _⟩
    · have h2' : ¬ (32 : Int) < (c.v.size : Int) := by omega
      have e : long c = 0 := by simp [long, h1, h2]
      rw [e]
      go_enter Try.func47, Try.ntmps47
      go_wp2
      go_ret
      exact ⟨rfl, (Below.refl _ _).alloc (Nat.le_refl _) _⟩
/-- May a page have this kind and this level? -/
def fit (k l : Int) : Bool := decide (0 ≤ k ∧ k ≤ 2 ∧ 0 ≤ l ∧ l ≤ 255 ∧ (k = 2 ∨ l = 0))
theorem fits_any (w : World) (k l : Int) : Calls Try.prog 45 #[.int .i64 k, .int .i64 l] w fun e w' => e = .returned (.bool (fit k l)) ∧ w' = w := by
  by_cases h1 : k < 0
  · have e : fit k l = false := by simp only [fit, decide_eq_false_iff_not]; omega
    rw [e]
    go_enter Try.func45, Try.ntmps45
    go_wp2
    go_ret
    exact ⟨rfl, rfl⟩
  · by_cases h2 : 2 < k
    · have e : fit k l = false := by simp only [fit, decide_eq_false_iff_not]; omega
      rw [e]
      go_enter Try.func45, Try.ntmps45
      go_wp2
      go_ret
      exact ⟨rfl, rfl⟩
    · by_cases h3 : l < 0
      · have e : fit k l = false := by simp only [fit, decide_eq_false_iff_not]; omega
        rw [e]
        go_enter Try.func45, Try.ntmps45
        go_wp2
        go_ret
        exact ⟨rfl, rfl⟩
      · by_cases h4 : 255 < l
        · have e : fit k l = false := by simp only [fit, decide_eq_false_iff_not]; omega
          rw [e]
          go_enter Try.func45, Try.ntmps45
          go_wp2
          go_ret
          exact ⟨rfl, rfl⟩
        · by_cases h5 : k = 2
          · have e : fit k l = true := by simp only [fit, decide_eq_true_eq]; omega
            rw [e]
            go_enter Try.func45, Try.ntmps45
            go_wp2
            go_ret
            exact ⟨rfl, rfl⟩
          · have h5' : (k == 2) = false := by simpa using h5
            have e : fit k l = (l == 0) := by
              rw [Bool.eq_iff_iff]
              simp only [fit, decide_eq_true_eq, beq_iff_eq]; omega
            rw [e]
            go_enter Try.func45, Try.ntmps45
            go_wp2
            go_ret
            exact ⟨rfl, rfl⟩
end
end Go.Proofs.Ytmoognjegjeegaa
