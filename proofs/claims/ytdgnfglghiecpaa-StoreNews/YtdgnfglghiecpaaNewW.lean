/- StoreNews: which stores there are. -/
import Derived.Test.YtdgnfglghiecpaaAw
namespace Go.Proofs.Ytdgnfglghiecpaa
open Go.RowKit Go.Maps Go.ChangeMaps
set_option linter.unusedVariables false
set_option linter.unusedSimpArgs false
set_option maxRecDepth 100000

theorem news_far (n b p g : Int) (h : n < 1 ∨ 900 < n) (w : World) : Calls Try.prog 3 #[.int .i64 n, .int .i64 b, .int .i64 p, .int .i64 g] w fun e w' => e = .returned (.bool true) ∧ Below w.heap.size w w' := by
  by_cases h1 : n < 1
  · clear h
    go_enter Try.func3, Try.ntmps3
    go_wp2_with (go_at_call 9; refine (awake_any _).mono ?_; rintro e w' ⟨rfl, hb⟩)
    go_ret
    exact ⟨rfl, hb⟩
  · have h2 : 900 < n := by omega
    clear h
    go_enter Try.func3, Try.ntmps3
    go_wp2_with (go_at_call 9; refine (awake_any _).mono ?_; rintro e w' ⟨rfl, hb⟩)
    go_ret
    exact ⟨rfl, hb⟩
theorem news_arg (n : Nat) (n1 : 1 ≤ n) (n2 : n ≤ 900) (b p g : Int) (h : newArg b p g) (w : World) : Calls Try.prog 3 #[.int .i64 (n : Int), .int .i64 b, .int .i64 p, .int .i64 g] w fun e w' => e = .returned (.bool true) ∧ Below w.heap.size w w' := by
  have i1 : ¬ (n : Int) < 1 := by omega
  have i2 : ¬ 900 < (n : Int) := by omega
  have CN : Hid (∀ w, Calls Try.prog 10 #[.int .i64 (n : Int)] w fun e w' => e = .returned (.tuple #[.pointer (some ⟨w.heap.size + 2, 0, none⟩), .int .i64 0]) ∧ DkIs w' (w.heap.size + 2) w.heap.size (w.heap.size + 1) 0 (newDk n) ∧ Below w.heap.size w w') :=
    fun w => New_any n n1 (by omega) w
  have CS : Hid (∀ w db lb mb, DkIs w db lb mb 0 (newDk n) → Calls Try.prog 11 #[.pointer (some ⟨db, 0, none⟩), .int .i64 b, .int .i64 p, .int .i64 g] w fun e w' => e = .returned (.tuple #[.pointer none, .int .i64 1]) ∧ w' = w) := fun w db lb mb hd => StNew_arg b p g w h
  unfold newArg at h
  have hc : g < 1 ∨ (¬ g < 1 ∧ 65535 < g) ∨ (¬ g < 1 ∧ ¬ 65535 < g ∧ b < 0) ∨ (¬ g < 1 ∧ ¬ 65535 < g ∧ ¬ b < 0 ∧ p < 1) ∨ (¬ g < 1 ∧ ¬ 65535 < g ∧ ¬ b < 0 ∧ ¬ p < 1 ∧ 200 < p) := by omega
  clear h
  rcases hc with h1 | ⟨h1, h2⟩ | ⟨h1, h2, h3⟩ | ⟨h1, h2, h3, h4⟩ | ⟨h1, h2, h3, h4, h5⟩
  all_goals
    go_enter Try.func3, Try.ntmps3
    go_wp2_with (first
      | (go_at_call 10; refine (CN.out _).mono ?_; rintro e w1 ⟨rfl, hd, b1⟩)
      | (go_at_call 11; first
          | (refine (CS.out _ _ _ _ hd).mono ?_; clear hd; rintro e w2 ⟨rfl, rfl⟩)
          | (refine (StNew_nil _ _ _ _).mono ?_; rintro e w3 ⟨rfl, rfl⟩))
      | (go_at_call 9; refine (awake_any _).mono ?_; rintro e w4 ⟨rfl, b4⟩))
    go_ret
    exact ⟨rfl, b1.trans (b4.mono b1.size)⟩
theorem news_range (n : Nat) (n1 : 1 ≤ n) (n2 : n ≤ 900) (b p g : Int) (h : ¬ newArg b p g) (hb : b ≤ 9223372036854775807) (hr : (n : Int) - b < 4 * p) (w : World) : Calls Try.prog 3 #[.int .i64 (n : Int), .int .i64 b, .int .i64 p, .int .i64 g] w fun e w' => e = .returned (.bool true) ∧ Below w.heap.size w w' := by
  have i1 : ¬ (n : Int) < 1 := by omega
  have i2 : ¬ 900 < (n : Int) := by omega
  have CN : Hid (∀ w, Calls Try.prog 10 #[.int .i64 (n : Int)] w fun e w' => e = .returned (.tuple #[.pointer (some ⟨w.heap.size + 2, 0, none⟩), .int .i64 0]) ∧ DkIs w' (w.heap.size + 2) w.heap.size (w.heap.size + 1) 0 (newDk n) ∧ Below w.heap.size w w') :=
    fun w => New_any n n1 (by omega) w
  have CS : Hid (∀ w db lb mb, DkIs w db lb mb 0 (newDk n) → Calls Try.prog 11 #[.pointer (some ⟨db, 0, none⟩), .int .i64 b, .int .i64 p, .int .i64 g] w fun e w' => e = .returned (.tuple #[.pointer none, .int .i64 6]) ∧ w' = w) := fun w db lb mb hd => StNew_range b p g w hd (newDk_ok n1 (by omega)) h hb hr
  unfold newArg at h
  have h1 : ¬ g < 1 := by omega
  have h2 : ¬ 65535 < g := by omega
  have h3 : ¬ b < 0 := by omega
  have h4 : ¬ p < 1 := by omega
  have h5 : ¬ 200 < p := by omega
  by_cases h6 : (n : Int) < b
  · clear h hr
    go_enter Try.func3, Try.ntmps3
    go_wp2_with (first
      | (go_at_call 10; refine (CN.out _).mono ?_; rintro e w1 ⟨rfl, hd, b1⟩)
      | (go_at_call 11; first
          | (refine (CS.out _ _ _ _ hd).mono ?_; clear hd; rintro e w2 ⟨rfl, rfl⟩)
          | (refine (StNew_nil _ _ _ _).mono ?_; rintro e w3 ⟨rfl, rfl⟩))
      | (go_at_call 9; refine (awake_any _).mono ?_; rintro e w4 ⟨rfl, b4⟩))
    go_ret
    exact ⟨rfl, b1.trans (b4.mono b1.size)⟩
  · clear h
    go_enter Try.func3, Try.ntmps3
    go_wp2_with (first
      | (go_at_call 10; refine (CN.out _).mono ?_; rintro e w1 ⟨rfl, hd, b1⟩)
      | (go_at_call 11; first
          | (refine (CS.out _ _ _ _ hd).mono ?_; clear hd; rintro e w2 ⟨rfl, rfl⟩)
          | (refine (StNew_nil _ _ _ _).mono ?_; rintro e w3 ⟨rfl, rfl⟩))
      | (go_at_call 9; refine (awake_any _).mono ?_; rintro e w4 ⟨rfl, b4⟩))
    go_ret
    exact ⟨rfl, b1.trans (b4.mono b1.size)⟩
theorem news_good (n b p g : Nat) (n1 : 1 ≤ n) (n2 : n ≤ 900) (hg1 : 1 ≤ g) (hg2 : g ≤ 65535) (hp1 : 1 ≤ p) (hp2 : p ≤ 200) (hr : b + 4 * p ≤ n) (w : World) : Calls Try.prog 3 #[.int .i64 (n : Int), .int .i64 (b : Int), .int .i64 (p : Int), .int .i64 (g : Int)] w fun e w' => e = .returned (.bool true) ∧ Below w.heap.size w w' := by
  have i1 : ¬ (n : Int) < 1 := by omega
  have i2 : ¬ 900 < (n : Int) := by omega
  have CN : Hid (∀ w, Calls Try.prog 10 #[.int .i64 (n : Int)] w fun e w' => e = .returned (.tuple #[.pointer (some ⟨w.heap.size + 2, 0, none⟩), .int .i64 0]) ∧ DkIs w' (w.heap.size + 2) w.heap.size (w.heap.size + 1) 0 (newDk n) ∧ Below w.heap.size w w') :=
    fun w => New_any n n1 (by omega) w
  have CS : Hid (∀ w db lb mb, DkIs w db lb mb 0 (newDk n) → Calls Try.prog 11 #[.pointer (some ⟨db, 0, none⟩), .int .i64 (b : Int), .int .i64 (p : Int), .int .i64 (g : Int)] w fun e w' => e = .returned (.tuple #[.pointer (some ⟨w.heap.size, 0, none⟩), .int .i64 0]) ∧ StIs w' w.heap.size db b p g ∧ Below w.heap.size w w') := fun w db lb mb hd => StNew_good b p g w hd (newDk_ok n1 (by omega)) hg1 hg2 hp1 hp2 hr
  have h1 : ¬ (g : Int) < 1 := by omega
  have h2 : ¬ 65535 < (g : Int) := by omega
  have h3 : ¬ (b : Int) < 0 := by omega
  have h4 : ¬ (p : Int) < 1 := by omega
  have h5 : ¬ 200 < (p : Int) := by omega
  have h6 : ¬ (n : Int) < (b : Int) := by omega
  have h7 : ¬ (n : Int) - (b : Int) < 4 * (p : Int) := by omega
  have h8 : 4 * (p : Int) ≤ 800 := by omega
  clear hr
  go_enter Try.func3, Try.ntmps3
  go_wp2_with (first
    | (go_at_call 10; refine (CN.out _).mono ?_; rintro e w1 ⟨rfl, hd, b1⟩)
    | (go_at_call 11; first
        | (refine (CS.out _ _ _ _ hd).mono ?_; clear hd; rintro e w2 ⟨rfl, hs, b2⟩)
        | (refine (StNew_nil _ _ _ _).mono ?_; rintro e w3 ⟨rfl, rfl⟩))
    | (go_at_call 12; refine (Pages_any _ hs).mono ?_; rintro e w5 ⟨rfl, rfl⟩)
    | (go_at_call 13; refine (Gen_any _ hs).mono ?_; rintro e w6 ⟨rfl, rfl⟩)
    | (go_at_call 9; refine (awake_any _).mono ?_; rintro e w4 ⟨rfl, b4⟩))
  go_ret
  have bb := b1.trans (b2.mono b1.size)
  exact ⟨rfl, bb.trans (b4.mono bb.size)⟩
theorem news_walk (n b p g : Int) (hb : b ≤ 9223372036854775807) (w : World) : Calls Try.prog 3 #[.int .i64 n, .int .i64 b, .int .i64 p, .int .i64 g] w fun e w' => e = .returned (.bool true) ∧ Below w.heap.size w w' := by
  by_cases h1 : n < 1 ∨ 900 < n
  · exact news_far n b p g h1 w
  · obtain ⟨m, rfl⟩ : ∃ m : Nat, n = m := ⟨n.toNat, by omega⟩
    by_cases h2 : newArg b p g
    · exact news_arg m (by omega) (by omega) b p g h2 w
    · by_cases h3 : (m : Int) - b < 4 * p
      · exact news_range m (by omega) (by omega) b p g h2 hb h3 w
      · unfold newArg at h2
        obtain ⟨b, rfl⟩ : ∃ m : Nat, b = m := ⟨b.toNat, by omega⟩
        obtain ⟨p, rfl⟩ : ∃ m : Nat, p = m := ⟨p.toNat, by omega⟩
        obtain ⟨g, rfl⟩ : ∃ m : Nat, g = m := ⟨g.toNat, by omega⟩
        exact news_good m b p g (by omega) (by omega) (by omega) (by omega) (by omega) (by omega) (by omega) w
end Go.Proofs.Ytdgnfglghiecpaa
