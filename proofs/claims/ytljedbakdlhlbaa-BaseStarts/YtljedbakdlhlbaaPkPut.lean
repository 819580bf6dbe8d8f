/- A number and a text behind a text: what the program's Put and Text and the law's put and text return, and that awake is true. -/
import Derived.Test.YtljedbakdlhlbaaPkNum
namespace Go.Proofs.Ytljedbakdlhlbaa.Pk
open Go.RowKit
set_option linter.unusedVariables false
set_option linter.unusedSimpArgs false
set_option maxRecDepth 100000

/-- What is told of a number behind a text. -/
def putV (s : ByteArray) (n k : Int) : ByteArray × Int :=
  if k < 1 ∨ 6 < k then (⟨#[]⟩, 1) else if n < 0 ∨ limI k.toNat ≤ n then (⟨#[]⟩, 6) else (s ++ beS n.toNat k.toNat, 0)
theorem putV_width {s : ByteArray} {n k : Int} (h : k < 1 ∨ 6 < k) : putV s n k = (⟨#[]⟩, 1) := by simp [putV, h]
theorem putV_range {s : ByteArray} {n k : Int} (h : ¬ (k < 1 ∨ 6 < k)) (h' : n < 0 ∨ limI k.toNat ≤ n) : putV s n k = (⟨#[]⟩, 6) := by simp [putV, h, h']
theorem putV_fits {s : ByteArray} {n k : Int} (h : ¬ (k < 1 ∨ 6 < k)) (h' : ¬ (n < 0 ∨ limI k.toNat ≤ n)) : putV s n k = (s ++ beS n.toNat k.toNat, 0) := by simp [putV, h, h']
/-- What is told of a text behind a text. -/
def textV (s t : ByteArray) : ByteArray × Int :=
  if 65535 < t.size then (⟨#[]⟩, 3) else (s ++ beS t.size 2 ++ t, 0)
theorem textV_long {s t : ByteArray} (h : 65535 < t.size) : textV s t = (⟨#[]⟩, 3) := by simp [textV, h]
theorem textV_fits {s t : ByteArray} (h : ¬ 65535 < t.size) : textV s t = (s ++ beS t.size 2 ++ t, 0) := by simp [textV, h]
theorem limI_1 : limI ((1 : Int).toNat) = 256 := by decide
theorem limI_2 : limI ((2 : Int).toNat) = 65536 := by decide
theorem limI_3 : limI ((3 : Int).toNat) = 16777216 := by decide
theorem limI_4 : limI ((4 : Int).toNat) = 4294967296 := by decide
theorem limI_5 : limI ((5 : Int).toNat) = 1099511627776 := by decide
theorem limI_6 : limI ((6 : Int).toNat) = 281474976710656 := by decide
theorem numI_1 (n : Int) (w : World) (h0 : 0 ≤ n) (hn : n ≤ 281474976710656) :
    Calls Try.prog 57 #[.int .i64 n, .int .i64 1] w fun e w' => e = .returned (.string (beS n.toNat 1)) ∧ Below w.heap.size w w' := by
  have h := num_1 n.toNat w (by omega)
  rw [Int.toNat_of_nonneg h0] at h
  exact h
theorem numI_2 (n : Int) (w : World) (h0 : 0 ≤ n) (hn : n ≤ 281474976710656) :
    Calls Try.prog 57 #[.int .i64 n, .int .i64 2] w fun e w' => e = .returned (.string (beS n.toNat 2)) ∧ Below w.heap.size w w' := by
  have h := num_2 n.toNat w (by omega)
  rw [Int.toNat_of_nonneg h0] at h
  exact h
theorem numI_3 (n : Int) (w : World) (h0 : 0 ≤ n) (hn : n ≤ 281474976710656) :
    Calls Try.prog 57 #[.int .i64 n, .int .i64 3] w fun e w' => e = .returned (.string (beS n.toNat 3)) ∧ Below w.heap.size w w' := by
  have h := num_3 n.toNat w (by omega)
  rw [Int.toNat_of_nonneg h0] at h
  exact h
theorem numI_4 (n : Int) (w : World) (h0 : 0 ≤ n) (hn : n ≤ 281474976710656) :
    Calls Try.prog 57 #[.int .i64 n, .int .i64 4] w fun e w' => e = .returned (.string (beS n.toNat 4)) ∧ Below w.heap.size w w' := by
  have h := num_4 n.toNat w (by omega)
  rw [Int.toNat_of_nonneg h0] at h
  exact h
theorem numI_5 (n : Int) (w : World) (h0 : 0 ≤ n) (hn : n ≤ 281474976710656) :
    Calls Try.prog 57 #[.int .i64 n, .int .i64 5] w fun e w' => e = .returned (.string (beS n.toNat 5)) ∧ Below w.heap.size w w' := by
  have h := num_5 n.toNat w (by omega)
  rw [Int.toNat_of_nonneg h0] at h
  exact h
theorem numI_6 (n : Int) (w : World) (h0 : 0 ≤ n) (hn : n ≤ 281474976710656) :
    Calls Try.prog 57 #[.int .i64 n, .int .i64 6] w fun e w' => e = .returned (.string (beS n.toNat 6)) ∧ Below w.heap.size w w' := by
  have h := num_6 n.toNat w (by omega)
  rw [Int.toNat_of_nonneg h0] at h
  exact h

set_option maxHeartbeats 2000000 in
theorem Put_any (s : ByteArray) (n k : Int) (w : World) (hs : s.size ≤ 281474976710656) :
    Calls Try.prog 42 #[.string s, .int .i64 n, .int .i64 k] w fun e w' => e = .returned (.tuple #[.string (putV s n k).1, .int .i64 (putV s n k).2]) ∧ Below w.heap.size w w' := by
  by_cases hw : k < 1 ∨ 6 < k
  · rw [putV_width hw]
    have hd : (decide (1 ≤ k) && decide (k ≤ 6)) = false := by simp; omega
    go_enter Try.func42, Try.ntmps42
    go_wp2_with (go_at_call 43; refine (isWidth_any _ _).mono ?_; rintro e w' ⟨rfl, rfl⟩)
    go_ret2
    exact ⟨rfl, Below.refl _ _⟩
  · have hk : k = 1 ∨ k = 2 ∨ k = 3 ∨ k = 4 ∨ k = 5 ∨ k = 6 := by omega
    by_cases hr : n < 0 ∨ limI k.toNat ≤ n
    · rw [putV_range hw hr]
      clear hw
      rcases hr with hr | hr
      · rcases hk with rfl | rfl | rfl | rfl | rfl | rfl
        all_goals
          go_enter Try.func42, Try.ntmps42
          go_wp2_with (go_at_call 43; refine (isWidth_any _ _).mono ?_; rintro e w' ⟨rfl, rfl⟩)
          go_ret2
          exact ⟨rfl, Below.refl _ _⟩
      · rcases hk with rfl | rfl | rfl | rfl | rfl | rfl
        · rw [limI_1] at hr
          have hn0 : 0 ≤ n := by omega
          go_enter Try.func42, Try.ntmps42
          go_wp2_with (go_at_call 43; refine (isWidth_any _ _).mono ?_; rintro e w' ⟨rfl, rfl⟩)
          go_ret2
          exact ⟨rfl, Below.refl _ _⟩
        · rw [limI_2] at hr
          have hn0 : 0 ≤ n := by omega
          go_enter Try.func42, Try.ntmps42
          go_wp2_with (go_at_call 43; refine (isWidth_any _ _).mono ?_; rintro e w' ⟨rfl, rfl⟩)
          go_ret2
          exact ⟨rfl, Below.refl _ _⟩
        · rw [limI_3] at hr
          have hn0 : 0 ≤ n := by omega
          go_enter Try.func42, Try.ntmps42
          go_wp2_with (go_at_call 43; refine (isWidth_any _ _).mono ?_; rintro e w' ⟨rfl, rfl⟩)
          go_ret2
          exact ⟨rfl, Below.refl _ _⟩
        · rw [limI_4] at hr
          have hn0 : 0 ≤ n := by omega
          go_enter Try.func42, Try.ntmps42
          go_wp2_with (go_at_call 43; refine (isWidth_any _ _).mono ?_; rintro e w' ⟨rfl, rfl⟩)
          go_ret2
          exact ⟨rfl, Below.refl _ _⟩
        · rw [limI_5] at hr
          have hn0 : 0 ≤ n := by omega
          go_enter Try.func42, Try.ntmps42
          go_wp2_with (go_at_call 43; refine (isWidth_any _ _).mono ?_; rintro e w' ⟨rfl, rfl⟩)
          go_ret2
          exact ⟨rfl, Below.refl _ _⟩
        · rw [limI_6] at hr
          have hn0 : 0 ≤ n := by omega
          go_enter Try.func42, Try.ntmps42
          go_wp2_with (go_at_call 43; refine (isWidth_any _ _).mono ?_; rintro e w' ⟨rfl, rfl⟩)
          go_ret2
          exact ⟨rfl, Below.refl _ _⟩
    · rw [putV_fits hw hr]
      clear hw
      have hn0 : 0 ≤ n := by omega
      rcases hk with rfl | rfl | rfl | rfl | rfl | rfl
      · rw [limI_1] at hr
        have hlt : n < 256 := by omega
        have hz : (beS n.toNat 1).size ≤ 6 := by rw [beS_size]; omega
        clear hr
        go_enter Try.func42, Try.ntmps42
        go_wp2_with (first | (go_at_call 43; refine (isWidth_any _ _).mono ?_; rintro e w' ⟨rfl, rfl⟩) | (go_at_call 57; refine (numI_1 _ _ (by omega) (by omega)).mono ?_; rintro e w' ⟨rfl, hb⟩))
        go_ret2
        exact ⟨rfl, hb⟩
      · rw [limI_2] at hr
        have hlt : n < 65536 := by omega
        have hz : (beS n.toNat 2).size ≤ 6 := by rw [beS_size]; omega
        clear hr
        go_enter Try.func42, Try.ntmps42
        go_wp2_with (first | (go_at_call 43; refine (isWidth_any _ _).mono ?_; rintro e w' ⟨rfl, rfl⟩) | (go_at_call 57; refine (numI_2 _ _ (by omega) (by omega)).mono ?_; rintro e w' ⟨rfl, hb⟩))
        go_ret2
        exact ⟨rfl, hb⟩
      · rw [limI_3] at hr
        have hlt : n < 16777216 := by omega
        have hz : (beS n.toNat 3).size ≤ 6 := by rw [beS_size]; omega
        clear hr
        go_enter Try.func42, Try.ntmps42
        go_wp2_with (first | (go_at_call 43; refine (isWidth_any _ _).mono ?_; rintro e w' ⟨rfl, rfl⟩) | (go_at_call 57; refine (numI_3 _ _ (by omega) (by omega)).mono ?_; rintro e w' ⟨rfl, hb⟩))
        go_ret2
        exact ⟨rfl, hb⟩
      · rw [limI_4] at hr
        have hlt : n < 4294967296 := by omega
        have hz : (beS n.toNat 4).size ≤ 6 := by rw [beS_size]; omega
        clear hr
        go_enter Try.func42, Try.ntmps42
        go_wp2_with (first | (go_at_call 43; refine (isWidth_any _ _).mono ?_; rintro e w' ⟨rfl, rfl⟩) | (go_at_call 57; refine (numI_4 _ _ (by omega) (by omega)).mono ?_; rintro e w' ⟨rfl, hb⟩))
        go_ret2
        exact ⟨rfl, hb⟩
      · rw [limI_5] at hr
        have hlt : n < 1099511627776 := by omega
        have hz : (beS n.toNat 5).size ≤ 6 := by rw [beS_size]; omega
        clear hr
        go_enter Try.func42, Try.ntmps42
        go_wp2_with (first | (go_at_call 43; refine (isWidth_any _ _).mono ?_; rintro e w' ⟨rfl, rfl⟩) | (go_at_call 57; refine (numI_5 _ _ (by omega) (by omega)).mono ?_; rintro e w' ⟨rfl, hb⟩))
        go_ret2
        exact ⟨rfl, hb⟩
      · rw [limI_6] at hr
        have hlt : n < 281474976710656 := by omega
        have hz : (beS n.toNat 6).size ≤ 6 := by rw [beS_size]; omega
        clear hr
        go_enter Try.func42, Try.ntmps42
        go_wp2_with (first | (go_at_call 43; refine (isWidth_any _ _).mono ?_; rintro e w' ⟨rfl, rfl⟩) | (go_at_call 57; refine (numI_6 _ _ (by omega) (by omega)).mono ?_; rintro e w' ⟨rfl, hb⟩))
        go_ret2
        exact ⟨rfl, hb⟩

set_option maxHeartbeats 1000000 in
theorem Text_any (s t : ByteArray) (w : World) (hs : s.size ≤ 281474976710656) (ht : t.size ≤ 281474976710656) :
    Calls Try.prog 41 #[.string s, .string t] w fun e w' => e = .returned (.tuple #[.string (textV s t).1, .int .i64 (textV s t).2]) ∧ Below w.heap.size w w' := by
  by_cases hl : 65535 < t.size
  · rw [textV_long hl]
    go_enter Try.func41, Try.ntmps41
    go_wp2_with fail
    go_ret2
    exact ⟨rfl, Below.refl _ _⟩
  · rw [textV_fits hl]
    have hz : (beS t.size 2).size ≤ 6 := by rw [beS_size]; omega
    have hz2 : (s ++ beS t.size 2).size ≤ 281474976710662 := by rw [ByteArray.size_append]; omega
    go_enter Try.func41, Try.ntmps41
    go_wp2_with (go_at_call 57; refine (num_2 _ _ (by omega)).mono ?_; rintro e w' ⟨rfl, hb⟩)
    go_ret2
    exact ⟨rfl, hb⟩

theorem Put_258 (w : World) :
    Calls Try.prog 42 #[.string ⟨#[]⟩, .int .i64 258, .int .i64 2] w fun e w' => e = .returned (.tuple #[.string ⟨#[1, 2]⟩, .int .i64 0]) ∧ Below w.heap.size w w' := by
  have h := Put_any ⟨#[]⟩ 258 2 w (by decide)
  have e : putV ⟨#[]⟩ 258 2 = (⟨#[1, 2]⟩, 0) := by decide
  rw [e] at h
  exact h
theorem Text_ab (w : World) :
    Calls Try.prog 41 #[.string ⟨#[]⟩, .string ⟨#[97, 98]⟩] w fun e w' => e = .returned (.tuple #[.string ⟨#[0, 2, 97, 98]⟩, .int .i64 0]) ∧ Below w.heap.size w w' := by
  have h := Text_any ⟨#[]⟩ ⟨#[97, 98]⟩ w (by decide) (by decide)
  have e : textV ⟨#[]⟩ ⟨#[97, 98]⟩ = (⟨#[0, 2, 97, 98]⟩, 0) := by decide
  rw [e] at h
  exact h

end Go.Proofs.Ytljedbakdlhlbaa.Pk
