/- The law DiskMost, walked. -/
import Derived.Test.YtoafoopenmppgaaAwk
namespace Go.Proofs.Ytoafoopenmppgaa
open Go.RowKit Go.Maps Go.ChangeMaps Go.Sort
set_option linter.unusedVariables false
set_option linter.unusedSimpArgs false
set_option maxRecDepth 100000
variable {w w' : World} {db lb mb m : Nat} {S : Dk}

theorem G.mono {k k' : Int} {u : Bool} (h : G k u S) (hk : k ≤ k') : G k' u S := ⟨h.ok, h.up, h.set, by have := h.acts; omega, by have := h.downs; omega⟩
theorem refAt_in {up : Bool} {n : Nat} {x : Int} (h : refAt up n x = 0) : up = true ∧ 0 ≤ x ∧ x < n := by
  simp only [refAt] at h
  split at h
  · rename_i hu
    split at h
    · cases h
    · exact ⟨hu, by omega, by omega⟩
  · cases h
theorem G.write {k : Int} (h : G k true S) (hk : k ≤ 1000) (x : Int) {s : ByteArray} (hs : s.size ≤ 64) : G (k + 1) true (writeDk S x s) := by
  by_cases hr : refAt S.up S.n x = 0
  · have ha : actE S = 0 := by simp [actE, h.set]
    have e : writeDk S x s = wrDk S x.toNat s := by
      have : ¬ 64 < s.size := by omega
      simp [writeDk, hr, this, ha, wrDk, actDk, h.set]
    rw [e]
    exact h.wr hk (by have := refAt_in hr; omega) hs
  · have e : writeDk S x s = S := by simp [writeDk, hr]
    rw [e]
    exact h.mono (by omega)
theorem G.write2 {k : Int} (h : G k true S) (hk : k ≤ 1000) {x : Int} {s : ByteArray} (hs : s.size ≤ 64) (hD : DkIs w db lb mb m (writeDk S x s)) : G (k + 1) true (writeDk S x s) := h.write hk x hs
theorem writeDk_n (S : Dk) (x : Int) (s : ByteArray) : (writeDk S x s).n = S.n := by
  unfold writeDk
  split
  · rfl
  · split
    · rfl
    · split
      · exact actDk_n S
      · exact actDk_n S
def tZ : ByteArray := ⟨#[122]⟩
theorem tz2 : tZ.size ≤ 64 := by decide
theorem write_good {k : Int} (h : G k true S) {x : Int} (h0 : 0 ≤ x) (hx : x < S.n) {s : ByteArray} (hs : s.size ≤ 64) : writeE S x s = 0 := by
  have h1 : ¬ x < 0 := by omega
  have h2 : ¬ (S.n : Int) ≤ x := by omega
  have h3 : ¬ 64 < s.size := by omega
  simp [writeE, refAt, h.up, h1, h2, h3, actE, h.set]
theorem write_range {k : Int} (h : G k true S) {x : Int} (hx : (S.n : Int) ≤ x) (s : ByteArray) : writeE S x s = 6 := by
  simp [writeE, refAt, h.up, hx]

set_option maxHeartbeats 2000000 in
theorem most_m (w : World) : Calls Try.prog 5 #[.int .i64 (-1)] w fun e w' => e = .returned (.bool true) ∧ Below w.heap.size w w' := by
  obtain ⟨B, hB⟩ : ∃ B, B = w.heap.size := ⟨_, rfl⟩
  obtain ⟨S0, e0⟩ : ∃ S0, S0 = newDk 8191 := ⟨_, rfl⟩
  have C0 : Hid (Calls Try.prog 8 #[.int .i64 8191] w fun e w' => e = .returned (.tuple #[.pointer (some ⟨B + 2, 0, none⟩), .int .i64 0]) ∧ DkIs w' (B + 2) B (B + 1) 0 S0 ∧ Below B w w') := by
    rw [hB, e0]; exact New_any 8191 (by omega) (by omega) w
  have g0 : Hid (G 0 true S0) := by
    show G 0 true S0
    rw [e0]; exact G.new (by omega) (by omega)
  have hn : S0.n = 8191 := by rw [e0]; rfl
  have x1 : writeE S0 8190 tZ = 0 := write_good g0.out (by omega) (by rw [hn]; omega) tz2
  have x2 : writeE (writeDk S0 8190 tZ) 8191 tZ = 6 := write_range (g0.out.write (by omega) 8190 tz2) (by rw [writeDk_n, hn]; omega) tZ
  have C1 : Hid (∀ w S k m x, G k true S → k ≤ 1000 → m ≤ 10 → DkIs w (B + 2) B (B + 1) m S → Calls Try.prog 16 #[.pointer (some ⟨B + 2, 0, none⟩), .int .i64 x, .string tZ] w fun e w' => e = .returned (.int .i64 (writeE S x tZ)) ∧ DkIs w' (B + 2) B (B + 1) (m + 1) (writeDk S x tZ) ∧ Off (disk3 (B + 2) B (B + 1)) w w') := fun w S k m x g hk hm h =>
    Write_any w h g.ok (by omega) x tZ (by decide)
  have C2 : Hid (∀ w, DkIs w (B + 2) B (B + 1) 0 S0 → Calls Try.prog 12 #[.pointer (some ⟨B + 2, 0, none⟩)] w fun e w' => e = .returned (.int .i64 8191) ∧ w' = w) := fun w h => by
    have := Size_any w h g0.out.ok.n1
    rw [hn] at this
    exact this
  have HB : Hid (B ≤ w.heap.size) := Nat.le_of_eq hB
  rw [← hB]
  clear hB e0 hn
  unfold tZ at x1 x2 C1
  go_enter Try.func5, Try.ntmps5
  go_wp2_with (first
    | (go_at_call 8; refine C0.out.mono ?_; rintro e w1 ⟨rfl, hD, hb⟩; have hG := g0.out)
    | (go_at_call 12; refine (C2.out _ hD).mono ?_; rintro e w2 ⟨rfl, hw2⟩; subst hw2)
    | (go_at_call 16; refine (C1.out _ _ _ _ _ hG (by omega) (by omega) hD).mono ?_; rintro e w2 ⟨rfl, hD, ho⟩; have hb := below_step hb HB.out ho; have hG := G.write2 hG (by omega) tz2 hD)
    | (go_at_call 7; refine (awake_any _).mono ?_; rintro e w3 ⟨rfl, hr⟩; have hb := hb.trans (hr.mono (Nat.le_trans HB.out hb.size))))
  go_ret
  exact ⟨rfl, hb⟩

set_option maxHeartbeats 2000000 in
theorem most_z (w : World) : Calls Try.prog 5 #[.int .i64 (0)] w fun e w' => e = .returned (.bool true) ∧ Below w.heap.size w w' := by
  obtain ⟨B, hB⟩ : ∃ B, B = w.heap.size := ⟨_, rfl⟩
  obtain ⟨S0, e0⟩ : ∃ S0, S0 = newDk 8192 := ⟨_, rfl⟩
  have C0 : Hid (Calls Try.prog 8 #[.int .i64 8192] w fun e w' => e = .returned (.tuple #[.pointer (some ⟨B + 2, 0, none⟩), .int .i64 0]) ∧ DkIs w' (B + 2) B (B + 1) 0 S0 ∧ Below B w w') := by
    rw [hB, e0]; exact New_any 8192 (by omega) (by omega) w
  have g0 : Hid (G 0 true S0) := by
    show G 0 true S0
    rw [e0]; exact G.new (by omega) (by omega)
  have hn : S0.n = 8192 := by rw [e0]; rfl
  have x1 : writeE S0 8191 tZ = 0 := write_good g0.out (by omega) (by rw [hn]; omega) tz2
  have x2 : writeE (writeDk S0 8191 tZ) 8192 tZ = 6 := write_range (g0.out.write (by omega) 8191 tz2) (by rw [writeDk_n, hn]; omega) tZ
  have C1 : Hid (∀ w S k m x, G k true S → k ≤ 1000 → m ≤ 10 → DkIs w (B + 2) B (B + 1) m S → Calls Try.prog 16 #[.pointer (some ⟨B + 2, 0, none⟩), .int .i64 x, .string tZ] w fun e w' => e = .returned (.int .i64 (writeE S x tZ)) ∧ DkIs w' (B + 2) B (B + 1) (m + 1) (writeDk S x tZ) ∧ Off (disk3 (B + 2) B (B + 1)) w w') := fun w S k m x g hk hm h =>
    Write_any w h g.ok (by omega) x tZ (by decide)
  have C2 : Hid (∀ w, DkIs w (B + 2) B (B + 1) 0 S0 → Calls Try.prog 12 #[.pointer (some ⟨B + 2, 0, none⟩)] w fun e w' => e = .returned (.int .i64 8192) ∧ w' = w) := fun w h => by
    have := Size_any w h g0.out.ok.n1
    rw [hn] at this
    exact this
  have HB : Hid (B ≤ w.heap.size) := Nat.le_of_eq hB
  rw [← hB]
  clear hB e0 hn
  unfold tZ at x1 x2 C1
  go_enter Try.func5, Try.ntmps5
  go_wp2_with (first
    | (go_at_call 8; refine C0.out.mono ?_; rintro e w1 ⟨rfl, hD, hb⟩; have hG := g0.out)
    | (go_at_call 12; refine (C2.out _ hD).mono ?_; rintro e w2 ⟨rfl, hw2⟩; subst hw2)
    | (go_at_call 16; refine (C1.out _ _ _ _ _ hG (by omega) (by omega) hD).mono ?_; rintro e w2 ⟨rfl, hD, ho⟩; have hb := below_step hb HB.out ho; have hG := G.write2 hG (by omega) tz2 hD)
    | (go_at_call 7; refine (awake_any _).mono ?_; rintro e w3 ⟨rfl, hr⟩; have hb := hb.trans (hr.mono (Nat.le_trans HB.out hb.size))))
  go_ret
  exact ⟨rfl, hb⟩

theorem most_walk (x : Int) (w : World) : Calls Try.prog 5 #[.int .i64 x] w fun e w' => e = .returned (.bool true) ∧ Below w.heap.size w w' := by
  by_cases h1 : x < -1
  · go_enter Try.func5, Try.ntmps5
    go_wp2_with (go_at_call 7; refine (awake_any _).mono ?_; rintro e w3 ⟨rfl, hr⟩)
    go_ret
    exact ⟨rfl, hr⟩
  by_cases h2 : 1 < x
  · go_enter Try.func5, Try.ntmps5
    go_wp2_with (go_at_call 7; refine (awake_any _).mono ?_; rintro e w3 ⟨rfl, hr⟩)
    go_ret
    exact ⟨rfl, hr⟩
  have hx : x = -1 ∨ x = 0 ∨ x = 1 := by omega
  rcases hx with rfl | rfl | rfl
  · exact most_m w
  · exact most_z w
  · have C0 : Hid (∀ w, Calls Try.prog 8 #[.int .i64 8193] w fun e w' => e = .returned (.tuple #[.pointer none, .int .i64 1]) ∧ w' = w) := fun w => New_bad 8193 (by omega) w
    clear h1 h2
    go_enter Try.func5, Try.ntmps5
    go_wp2_with (first | (go_at_call 8; refine (C0.out _).mono ?_; rintro e w2 ⟨rfl, hw2⟩; subst hw2) | (go_at_call 7; refine (awake_any _).mono ?_; rintro e w3 ⟨rfl, hr⟩))
    go_ret
    exact ⟨rfl, hr⟩
end Go.Proofs.Ytoafoopenmppgaa
